/- Texts of one claim, merged: StR4, Inv7, GeC0, GeC2, StC5. -/
import Derived.Test.YtgnjknboahcmgaaF4
import Derived.Test.YtgnjknboahcmgaaF2
import Derived.Test.YtgnjknboahcmgaaF1
import Derived.Deep.RegionLaw

/- The reference of layer 14, walked: New. -/
namespace Go.Proofs.Ytgnjknboahcmgaa
set_option maxRecDepth 100000
open Go.RowKit

def mkC (n : Nat) : Array Value := madeCells #[.int .i64 0] n
theorem makeN (w : World) (n : Nat) (hn : n ≤ 1000000) : Sem.run Try.prog (Instr.makeSlice 30 (.int .i64 (n : Int)) (.int .i64 (n : Int))) w = .ok (.slice (some ⟨w.heap.size, 0, none⟩) n n) (w.alloc (.cells (mkC n) 3)) := by
  obtain ⟨i0, hi, hz0, hz1, hz2⟩ := info_partsX infoInt
  have h := run_make (P := Try.prog) w 30 3 i0 _ Try.underlying30 hi hz0 .i64 .i64 (n : Int) (n : Int) (by omega) (Int.le_refl _) (by rw [hz2]; omega) (by omega)
  rw [hz1] at h
  simp only [Nat.mul_one, Int.toNat_natCast] at h
  exact h
theorem iv_made {w : World} {g n : Nat} (h : Blk w g (mkC n) 3) (hz : n ≤ 1000000) : IvAt w (.slice (some ⟨g, 0, none⟩) n n) (List.replicate n 0) := by
  refine ⟨some ⟨g, 0, none⟩, n, by rw [List.length_replicate], ⟨by rw [List.length_replicate]; exact Nat.le_refl _, by unfold maxLen; omega⟩, fun _ => ⟨g, 0, rfl, h.lt, fun i hi => ?_⟩⟩
  have hi2 : i < n := by rwa [List.length_replicate] at hi
  rw [Nat.zero_add, h.cell, List.getElem_replicate]
  simp [mkC, madeCells, hi2, Nat.mod_one]
def nwA (b n g0 g1 g2 g3 : Nat) : Array Value := #[.slice (some ⟨g0, 0, none⟩) n n, .slice (some ⟨g1, 0, none⟩) b b, .slice (some ⟨g2, 0, none⟩) b b, .slice (some ⟨g3, 0, none⟩) b b]
def newX (b n : Nat) : Sn := ⟨List.replicate n 0, List.replicate b 0, List.replicate b 0, List.replicate b 0⟩
def Nw4 (b n g0 g1 g2 g3 : Nat) (w : World) : Prop := Blk w g0 (mkC n) 3 ∧ Blk w g1 (mkC b) 3 ∧ Blk w g2 (mkC b) 3 ∧ Blk w g3 (mkC b) 3
theorem Nw4.sn {b n g0 g1 g2 g3 : Nat} {w : World} (h : Nw4 b n g0 g1 g2 g3 w) (hb : b ≤ 64) (hn : n ≤ 4096) : SnAt w (nwA b n g0 g1 g2 g3) (newX b n) :=
  ⟨_, _, _, _, rfl, iv_made h.1 (by omega), iv_made h.2.1 (by omega), iv_made h.2.2.1 (by omega), iv_made h.2.2.2 (by omega)⟩
theorem blk_neT {w : World} {g b : Nat} {cs ds : Array Value} {t t' : TypeId} (h : Blk w g cs t) (h' : Blk w b ds t') (hne : t ≠ t') : b ≠ g := fun e => by
  subst e
  unfold Blk at h h'
  rw [h] at h'
  cases h'
  exact hne rfl
theorem Nw4.put {b n g0 g1 g2 g3 q : Nat} {w : World} {cs : Array Value} (h : Nw4 b n g0 g1 g2 g3 w) (hb : Blk w q cs 32) (ds : Array Value) : Nw4 b n g0 g1 g2 g3 (w.setRow q ds) :=
  ⟨h.1.put_other (blk_neT h.1 hb (by decide)) ds, h.2.1.put_other (blk_neT h.2.1 hb (by decide)) ds, h.2.2.1.put_other (blk_neT h.2.2.1 hb (by decide)) ds, h.2.2.2.put_other (blk_neT h.2.2.2 hb (by decide)) ds⟩
/-- blocks from B on -/
def Fr4 (B g0 g1 g2 g3 : Nat) : Prop := B ≤ g0 ∧ B ≤ g1 ∧ B ≤ g2 ∧ B ≤ g3
def NwP (B b n : Nat) (w : World) : Prop := ∃ g0 g1 g2 g3, Fr4 B g0 g1 g2 g3 ∧ Blk w (B + 1) (nwA b n g0 g1 g2 g3) 32 ∧ Nw4 b n g0 g1 g2 g3 w
theorem NwP.mk {B b n g0 g1 g2 g3 : Nat} {w : World} {cs : Array Value} (hb : Blk w (B + 1) cs 32) (hl : Fr4 B g0 g1 g2 g3) (hk : Nw4 b n g0 g1 g2 g3 w) : NwP B b n (w.setRow (B + 1) (nwA b n g0 g1 g2 g3)) :=
  ⟨g0, g1, g2, g3, hl, hb.put _, hk.put hb _⟩
def TN (B b n : Nat) (w w' : World) : Prop := (∀ g m, Blk w g (mkC m) 3 → Blk w' g (mkC m) 3) ∧ (NwP B b n w → NwP B b n w')
theorem TN.refl (B b n : Nat) (w : World) : TN B b n w w := ⟨fun _ _ h => h, fun h => h⟩
theorem TN.alloc {B b n : Nat} (w : World) (o : Obj) : TN B b n w (w.alloc o) :=
  ⟨fun _ _ h => h.alloc o, fun ⟨g0, g1, g2, g3, h0, h1, h2, h3, h4, h5⟩ => ⟨g0, g1, g2, g3, h0, h1.alloc o, h2.alloc o, h3.alloc o, h4.alloc o, h5.alloc o⟩⟩
theorem TN.store {B b n g0 g1 g2 g3 : Nat} {w : World} {cs : Array Value} (hb : Blk w (B + 1) cs 32) (hl : Fr4 B g0 g1 g2 g3) (hk : Nw4 b n g0 g1 g2 g3 w) : TN B b n w (w.setRow (B + 1) (nwA b n g0 g1 g2 g3)) :=
  ⟨fun _ _ h => h.put_other (blk_neT h hb (by decide)) _, fun _ => NwP.mk hb hl hk⟩
/-- the boxes of New -/
def CN (w0 : World) (b : Int) (l y : Int) (n : Int) (s r : Int) (w : World) : Prop := Blk w w0.heap.size (gv b l y n s r) 23 ∧ (∃ cs : Array Value, Blk w (w0.heap.size + 1) cs 32 ∧ 4 = cs.size) ∧ Below w0.heap.size w0 w
theorem CN.after {w0 w w' : World} {b l y n s r : Int} (h : CN w0 b l y n s r w) (hb : Below w.heap.size w w') : CN w0 b l y n s r w' :=
  ⟨h.1.after hb, h.2.1.imp fun _ hc => ⟨hc.1.after hb, hc.2⟩, h.2.2.trans (hb.mono h.2.2.size)⟩
theorem CN.alloc {w0 w : World} {b l y n s r : Int} (h : CN w0 b l y n s r w) (o : Obj) : CN w0 b l y n s r (w.alloc o) := h.after ((Below.refl _ _).alloc (Nat.le_refl _) _)
theorem CN.drew {w0 w : World} {b l y n s r : Int} (h : CN w0 b l y n s r w) : CN w0 b l y n s r w.drew := h.after (Below.refl _ _).drew
theorem CN.put {w0 w : World} {b l y n s r : Int} {cs : Array Value} (h : CN w0 b l y n s r w) (hb : Blk w (w0.heap.size + 1) cs 32) (ds : Array Value) (hs : 4 = ds.size) : CN w0 b l y n s r (w.setRow (w0.heap.size + 1) ds) :=
  ⟨h.1.put_other (by omega) ds, ⟨ds, hb.put _, hs⟩, below_put (by omega) _ h.2.2⟩
/-- what each operation leaves -/
def SpNW (B b n : Nat) (j : Nat) (a : Act) (w : World) : Prop := match j with
  | 2 => ∃ g, a.tmps.getD 10 undef = .slice (some ⟨g, 0, none⟩) n n ∧ Blk w g (mkC n) 3 ∧ B ≤ g
  | 5 => ∃ g, a.tmps.getD 13 undef = .slice (some ⟨g, 0, none⟩) b b ∧ Blk w g (mkC b) 3 ∧ B ≤ g
  | 8 => ∃ g, a.tmps.getD 16 undef = .slice (some ⟨g, 0, none⟩) b b ∧ Blk w g (mkC b) 3 ∧ B ≤ g
  | 11 => ∃ g, a.tmps.getD 19 undef = .slice (some ⟨g, 0, none⟩) b b ∧ Blk w g (mkC b) 3 ∧ B ≤ g
  | 12 => ∃ g0 g1 g2 g3, a.tmps.getD 20 undef = .agg (nwA b n g0 g1 g2 g3) ∧ Fr4 B g0 g1 g2 g3 ∧ Nw4 b n g0 g1 g2 g3 w
  | _ => NwP B b n w
def fNW (j : Nat) : List Tmp := if j = 2 then [10] else if j = 5 then [13] else if j = 8 then [16] else if j = 11 then [19] else if j = 12 then [20] else []
theorem SpNW.ext (B b n : Nat) : ∀ (j : Nat) (a a' : Act) (w w' : World), SpNW B b n j a w → (∀ d ∈ fNW j, a'.tmps.getD d undef = a.tmps.getD d undef) → TN B b n w w' → SpNW B b n j a' w' := by
  intro j a a' w w' h hd hT
  unfold SpNW at h ⊢
  split at h
  · obtain ⟨g, h1, h2, h3⟩ := h; exact ⟨g, (hd 10 (by simp [fNW])).trans h1, hT.1 _ _ h2, h3⟩
  · obtain ⟨g, h1, h2, h3⟩ := h; exact ⟨g, (hd 13 (by simp [fNW])).trans h1, hT.1 _ _ h2, h3⟩
  · obtain ⟨g, h1, h2, h3⟩ := h; exact ⟨g, (hd 16 (by simp [fNW])).trans h1, hT.1 _ _ h2, h3⟩
  · obtain ⟨g, h1, h2, h3⟩ := h; exact ⟨g, (hd 19 (by simp [fNW])).trans h1, hT.1 _ _ h2, h3⟩
  · obtain ⟨g0, g1, g2, g3, h1, h0, h2, h3, h4, h5⟩ := h; exact ⟨g0, g1, g2, g3, (hd 20 (by simp [fNW])).trans h1, h0, hT.1 _ _ h2, hT.1 _ _ h3, hT.1 _ _ h4, hT.1 _ _ h5⟩
  · exact hT.2 h

/-- the frame while the region NW runs -/
def BaseNW (B : Nat) (a : Act) : Prop := ∃ u : Nat → Value, a = ⟨#[u 0, .pointer (some ⟨B, 0, none⟩), .pointer (some ⟨B + 1, 0, none⟩), u 3, u 4, u 5, u 6, u 7, u 8, u 9, u 10, u 11, u 12, u 13, u 14, u 15, u 16, u 17, u 18, u 19, u 20], []⟩
theorem BaseNW.of {B : Nat} (arr : Array Value) (h : arr = #[arr.getD 0 undef, .pointer (some ⟨B, 0, none⟩), .pointer (some ⟨B + 1, 0, none⟩), arr.getD 3 undef, arr.getD 4 undef, arr.getD 5 undef, arr.getD 6 undef, arr.getD 7 undef, arr.getD 8 undef, arr.getD 9 undef, arr.getD 10 undef, arr.getD 11 undef, arr.getD 12 undef, arr.getD 13 undef, arr.getD 14 undef, arr.getD 15 undef, arr.getD 16 undef, arr.getD 17 undef, arr.getD 18 undef, arr.getD 19 undef, arr.getD 20 undef]) : BaseNW B ⟨arr, []⟩ := ⟨fun i => arr.getD i undef, by rw [← h]⟩
theorem BaseNW.put8 {B : Nat} (a : Act) (v : Value) (h : BaseNW B a) : BaseNW B (a.put (some 8) v) := by
  obtain ⟨u, rfl⟩ := h
  exact ⟨fun i => if i = 8 then v else u i, by kernel_rfl⟩
theorem BaseNW.put9 {B : Nat} (a : Act) (v : Value) (h : BaseNW B a) : BaseNW B (a.put (some 9) v) := by
  obtain ⟨u, rfl⟩ := h
  exact ⟨fun i => if i = 9 then v else u i, by kernel_rfl⟩
theorem BaseNW.put10 {B : Nat} (a : Act) (v : Value) (h : BaseNW B a) : BaseNW B (a.put (some 10) v) := by
  obtain ⟨u, rfl⟩ := h
  exact ⟨fun i => if i = 10 then v else u i, by kernel_rfl⟩
theorem BaseNW.put11 {B : Nat} (a : Act) (v : Value) (h : BaseNW B a) : BaseNW B (a.put (some 11) v) := by
  obtain ⟨u, rfl⟩ := h
  exact ⟨fun i => if i = 11 then v else u i, by kernel_rfl⟩
theorem BaseNW.put12 {B : Nat} (a : Act) (v : Value) (h : BaseNW B a) : BaseNW B (a.put (some 12) v) := by
  obtain ⟨u, rfl⟩ := h
  exact ⟨fun i => if i = 12 then v else u i, by kernel_rfl⟩
theorem BaseNW.put13 {B : Nat} (a : Act) (v : Value) (h : BaseNW B a) : BaseNW B (a.put (some 13) v) := by
  obtain ⟨u, rfl⟩ := h
  exact ⟨fun i => if i = 13 then v else u i, by kernel_rfl⟩
theorem BaseNW.put14 {B : Nat} (a : Act) (v : Value) (h : BaseNW B a) : BaseNW B (a.put (some 14) v) := by
  obtain ⟨u, rfl⟩ := h
  exact ⟨fun i => if i = 14 then v else u i, by kernel_rfl⟩
theorem BaseNW.put15 {B : Nat} (a : Act) (v : Value) (h : BaseNW B a) : BaseNW B (a.put (some 15) v) := by
  obtain ⟨u, rfl⟩ := h
  exact ⟨fun i => if i = 15 then v else u i, by kernel_rfl⟩
theorem BaseNW.put16 {B : Nat} (a : Act) (v : Value) (h : BaseNW B a) : BaseNW B (a.put (some 16) v) := by
  obtain ⟨u, rfl⟩ := h
  exact ⟨fun i => if i = 16 then v else u i, by kernel_rfl⟩
theorem BaseNW.put17 {B : Nat} (a : Act) (v : Value) (h : BaseNW B a) : BaseNW B (a.put (some 17) v) := by
  obtain ⟨u, rfl⟩ := h
  exact ⟨fun i => if i = 17 then v else u i, by kernel_rfl⟩
theorem BaseNW.put18 {B : Nat} (a : Act) (v : Value) (h : BaseNW B a) : BaseNW B (a.put (some 18) v) := by
  obtain ⟨u, rfl⟩ := h
  exact ⟨fun i => if i = 18 then v else u i, by kernel_rfl⟩
theorem BaseNW.put19 {B : Nat} (a : Act) (v : Value) (h : BaseNW B a) : BaseNW B (a.put (some 19) v) := by
  obtain ⟨u, rfl⟩ := h
  exact ⟨fun i => if i = 19 then v else u i, by kernel_rfl⟩
theorem BaseNW.put20 {B : Nat} (a : Act) (v : Value) (h : BaseNW B a) : BaseNW B (a.put (some 20) v) := by
  obtain ⟨u, rfl⟩ := h
  exact ⟨fun i => if i = 20 then v else u i, by kernel_rfl⟩
theorem BaseNW.put3 {B : Nat} (a : Act) (v : Value) (h : BaseNW B a) : BaseNW B (a.put (some 3) v) := by
  obtain ⟨u, rfl⟩ := h
  exact ⟨fun i => if i = 3 then v else u i, by kernel_rfl⟩

theorem Fr4.mono {B C g0 g1 g2 g3 : Nat} (h : Fr4 B g0 g1 g2 g3) (hC : C ≤ B) : Fr4 C g0 g1 g2 g3 := by
  obtain ⟨h1, h2, h3, h4⟩ := h
  exact ⟨by omega, by omega, by omega, by omega⟩
theorem CN.new (w : World) (b l y n s r : Int) : CN w b l y n s r ((w.alloc (.cells (gv b l y n s r) 23)).alloc (.cells nil4 32)) := by
  have b1 : Blk ((w.alloc (.cells (gv b l y n s r) 23)).alloc (.cells nil4 32)) (w.heap.size + 1) nil4 32 := by
    have h := Blk.new (w.alloc (.cells (gv b l y n s r) 23)) nil4 32
    rwa [World.size_alloc] at h
  exact ⟨(Blk.new _ _ _).alloc _, ⟨nil4, b1, rfl⟩, ((Below.refl _ _).alloc (Nat.le_refl _) _).alloc (by simp) _⟩

end Go.Proofs.Ytgnjknboahcmgaa

/- As XInv2, where what holds all along may speak of the frame and the world together. -/
namespace Go.Proofs.Ytgnjknboahcmgaa

section
variable {P : Program} {ops : Array Oper} {Q : Exit → Act → World → Prop} {md : Region.Mode}

theorem wpAny_facts2J {Base : Act → Prop} {C : Act → World → Prop} {T : World → World → Prop} {R : Nat → Act → World → Prop} {S : Nat → List Tmp}
    (hbefore : ∀ (i : Nat) (o : Oper), ops[i]? = some o → ∀ e ∈ o.after, Region.binds md e = true → e.on < i)
    (hslots : ∀ (i j : Nat) (o o' : Oper), ops[i]? = some o → ops[j]? = some o' → j ≠ i → (∀ e ∈ o'.after, Region.binds md e = true → e.on ≠ i) → ∀ d, o.dst = some d → d ∉ S j)
    (hext : ∀ j a a' w w', R j a w → (∀ s ∈ S j, a'.tmps.getD s undef = a.tmps.getD s undef) → T w w' → R j a' w')
    (hbase : ∀ (i : Nat) (o : Oper), ops[i]? = some o → ∀ a v, Base a → Base (a.put o.dst v))
    (hops : ∀ (i : Nat) (o : Oper), ops[i]? = some o → ∀ a w, C a w → Base a → (∀ e ∈ o.after, Region.binds md e = true → R e.on a w) →
      wpOp P ops Q i (fun a' w' => ∃ v, a' = a.put o.dst v ∧ C a' w' ∧ T w w' ∧ R i a' w') a w)
    (hfin : ∀ a w, C a w → Base a → (∀ i, i < ops.size → R i a w) → Q .normal a w) :
    ∀ (fuel : Nat) (listed : Array Bool) (a : Act) (w : World), still ops.size listed ≤ fuel → listed.size = ops.size → C a w → Base a →
      (∀ i, i < ops.size → listed.getD i true = true → R i a w ∧ ∀ o, ops[i]? = some o → ∀ e ∈ o.after, Region.binds md e = true → listed.getD e.on true = true) → wpAny P md ops Q fuel listed a w := by
  have all : ∀ (listed : Array Bool), listed.size = ops.size → Region.ready md ops listed = [] → ∀ i, i < ops.size → listed.getD i true = true := by
    intro listed hsz hr i
    induction i using Nat.strongRecOn with
    | ind i ih =>
      intro hi
      cases hl : listed.getD i true with
      | true => rfl
      | false =>
        exfalso
        have hm : i ∈ Region.ready md ops listed := by
          rw [mem_ready]
          refine ⟨hl, ops[i], by simp [hi], fun e he hb => ?_⟩
          have hlt := hbefore i ops[i] (by simp [hi]) e he hb
          have h2 := ih e.on hlt (by omega)
          have h3 : e.on < listed.size := by omega
          simp [Array.getD, h3] at h2 ⊢
          exact h2
        rw [hr] at hm; cases hm
  intro fuel
  induction fuel with
  | zero =>
    intro listed a w hst hsz hC hB hR
    have hall := still_zero (Nat.le_zero.1 hst)
    have hr : Region.ready md ops listed = [] := by
      cases h : Region.ready md ops listed with
      | nil => rfl
      | cons i l =>
        have hm : i ∈ Region.ready md ops listed := by rw [h]; exact List.mem_cons_self
        obtain ⟨h1, o, ho, _⟩ := mem_ready.1 hm
        have hi : i < ops.size := (Array.getElem?_eq_some_iff.1 ho).1
        rw [hall i hi] at h1; cases h1
    exact ⟨hr, hfin a w hC hB fun i hi => (hR i hi (hall i hi)).1⟩
  | succ fuel ih =>
    intro listed a w hst hsz hC hB hR
    refine ⟨fun hr => hfin a w hC hB fun i hi => (hR i hi (all listed hsz hr i hi)).1, fun i hi => ?_⟩
    obtain ⟨h1, o, ho, hdeps⟩ := mem_ready.1 hi
    have hin : i < ops.size := (Array.getElem?_eq_some_iff.1 ho).1
    have hdl : ∀ e ∈ o.after, Region.binds md e = true → listed.getD e.on true = true := by
      intro e he hb
      have hlt := hbefore i o ho e he hb
      have h2 := hdeps e he hb
      have h3 : e.on < listed.size := by omega
      simp [Array.getD, h3] at h2 ⊢
      exact h2
    refine wpOp_mono ?_ (hops i o ho a w hC hB fun e he hb => (hR e.on (by have := hbefore i o ho e he hb; omega) (hdl e he hb)).1)
    rintro a' w' ⟨v, rfl, hC', hT, hRv⟩
    have hless := still_less hin h1
    have keep : ∀ k, listed.getD k true = true → (listed.setIfInBounds i true).getD k true = true := by
      intro k hk
      by_cases e : k = i
      · subst e
        have hs : k < listed.size := by omega
        simp [Array.getD, hs]
      · rw [getD_set_ne true (Ne.symm e)]; exact hk
    refine ih _ _ _ (by omega) (by simp [hsz]) hC' (hbase i o ho a v hB) fun j hj hlj => ?_
    by_cases e : j = i
    · subst e
      refine ⟨hRv, fun o' ho' e he hb => keep _ ?_⟩
      obtain rfl : o' = o := Option.some.inj (ho'.symm.trans ho)
      exact hdl e he hb
    · rw [getD_set_ne true (Ne.symm e)] at hlj
      obtain ⟨hRj, hdj⟩ := hR j hj hlj
      refine ⟨hext j a _ w w' hRj (fun s hs => put_slot fun x hx hxs => ?_) hT, fun o' ho' e he hb => keep _ (hdj o' ho' e he hb)⟩
      subst hxs
      refine hslots i j o ops[j] ho (by simp [hj]) e (fun e' he' hb' hne => ?_) x hx hs
      have := hdj ops[j] (by simp [hj]) e' he' hb'
      rw [hne, h1] at this; cases this

/-- what an operation leaves: its slot written, the world in the class and gone on, its own fact -/
def LeavesJ (C : Act → World → Prop) (T : World → World → Prop) (R : Nat → Act → World → Prop) (i : Nat) (o : Oper) (a : Act) (w : World) (a' : Act) (w' : World) : Prop := ∃ v, a' = a.put o.dst v ∧ C a' w' ∧ T w w' ∧ R i a' w'
/-- .. where operations may be guarded: an operation that is not wanted leaves its slot undefined -/
theorem wp_region_list3J {id : Nat} {l : List Oper} {a : Act} {w : World} (S : List (List Tmp)) (Base : Act → Prop) (C : Act → World → Prop) (T : World → World → Prop) (R : Nat → Act → World → Prop) (hm : P.follows .mixedOrders = true)
    (hpl : planB l S = true) (hext : ∀ j a a' w w', R j a w → (∀ s ∈ S.getD j [], a'.tmps.getD s undef = a.tmps.getD s undef) → T w w' → R j a' w')
    (hbase : AllFrom (fun _ o => ∀ a v, Base a → Base (a.put o.dst v)) 0 l) (hC : C a { w with drawn := w.drawn + 1 }) (hB : Base a)
    (hops : AllFrom (fun i o => ∀ a w, C a w → Base a → (∀ e ∈ o.after, Region.binds .any e = true → R e.on a w) →
      if Region.wanted o (yielded l.toArray a.tmps) = true then o.wp P a w (LeavesJ C T R i o a w) Q
      else LeavesJ C T R i o a w (a.put o.dst undef) w) 0 l)
    (hfin : ∀ a w, C a w → Base a → (∀ i, i < l.length → R i a w) → Q .normal a w) : (Code.region id l.toArray true).wp P Q a w := by
  have hp := List.all_eq_true.1 hpl
  refine wp_region_any hm (wpAny_facts2J (S := fun j => S.getD j []) (Base := Base) (C := C) (T := T) (R := R) ?_ ?_ hext hbase.all
    (fun i o ho a w h1 h2 h3 => ?_)
    (fun a w h1 h2 h3 => hfin a w h1 h2 fun i hi => h3 i (by simpa using hi)) _ _ _ _ ?_ (by simp) hC hB ?_)
  · intro i o ho e he hb
    have ho' : l[i]? = some o := by simpa using ho
    have h1 := hp i (List.mem_range.2 (List.getElem?_eq_some_iff.1 ho').1)
    simp only [ho', Bool.and_eq_true] at h1
    have h2 := (Array.all_eq_true_iff_forall_mem.1 h1.1) e he
    simpa [hb] using h2
  · intro i j o o' ho ho' hne hno d hd
    have hi : l[i]? = some o := by simpa using ho
    have hj : l[j]? = some o' := by simpa using ho'
    have h1 := hp i (List.mem_range.2 (List.getElem?_eq_some_iff.1 hi).1)
    simp only [hi, hd, Bool.and_eq_true] at h1
    have h2 := List.all_eq_true.1 h1.2 j (List.mem_range.2 (List.getElem?_eq_some_iff.1 hj).1)
    simp only [hj, Bool.or_eq_true, beq_iff_eq] at h2
    rcases h2 with h2 | h2 | h2
    · exact absurd h2 hne
    · obtain ⟨k, hk, hb⟩ := Array.any_eq_true.1 h2
      obtain ⟨e, he⟩ : ∃ e, e = o'.after[k] := ⟨_, rfl⟩
      rw [← he] at hb
      have he : e ∈ o'.after := by rw [he]; exact Array.getElem_mem hk
      simp only [Bool.and_eq_true, beq_iff_eq] at hb
      exact absurd hb.2 (hno e he hb.1)
    · intro hm
      simp at h2
      exact h2 hm
  · have h4 := hops.all i o ho a w h1 h2 h3
    unfold wpOp
    simp only [ho]
    by_cases hw : Region.wanted o (yielded l.toArray a.tmps) = true
    · rw [if_pos hw] at h4 ⊢
      exact Or.inl h4
    · rw [if_neg hw] at h4 ⊢
      exact h4
  · unfold still
    exact Nat.le_trans (List.length_filter_le _ _) (by simp)
  · intro i hi h
    have hi' : i < l.length := by simpa using hi
    simp [Array.getD] at h
    omega

end
end Go.Proofs.Ytgnjknboahcmgaa

/- Layer 6, the code's small ones: isFrom, isBelow, areAll, Most, Snaps, Raw, Spread. -/
namespace Go.Proofs.Ytgnjknboahcmgaa
set_option maxRecDepth 100000
open Go.RowKit

def fromB (v lo hi : Int) : Bool := decide (lo ≤ v ∧ v ≤ hi)
theorem is_from (v lo hi : Int) (w : World) : Calls Try.prog 40 #[.int .i64 v, .int .i64 lo, .int .i64 hi] w fun e w' => e = .returned (.bool (fromB v lo hi)) ∧ Below w.heap.size w w' := by
  go_enter Try.func40, Try.ntmps40
  go_wp2
  all_goals go_ret
  all_goals exact ⟨ret_bool (by unfold fromB; rw [Bool.eq_iff_iff]; simp; try omega), Below.refl _ _⟩
/-- Most and Snaps, whatever the numbers are: as they wrap round -/
def mostW (b l s : Int) : Int := wrap64 ((wrap64 (wrap64 (3 * l) * wrap64 (wrap64 (b - s) - 6))).tdiv 2)
def snapsW (b y n : Int) : Int := if y < 1 then 0 else wrap64 ((wrap64 (wrap64 (wrap64 (wrap64 (6 * n) + wrap64 (10 * b)) + y) - 1)).tdiv y)
theorem wrap64_of {x : Int} (h : -9223372036854775808 ≤ x ∧ x ≤ 9223372036854775807) : wrap64 x = x := by
  unfold wrap64; omega
theorem mostW_pre {b l y n s r : Int} (h : PreG b l y n s r) : mostW b l s = mostG b l s := by
  have hm := pre_most h
  obtain ⟨h1, h2, h3, h4, h5, h6, h7, h8, h9, h10, h11, h12, h13, h14⟩ := h
  unfold mostW mostG
  rw [wrap64_of (x := 3 * l) (by omega), wrap64_of (x := b - s) (by omega), wrap64_of (x := b - s - 6) (by omega), wrap64_of (x := 3 * l * (b - s - 6)) (by omega), Int.tdiv_eq_ediv_of_nonneg hm.1, wrap64_of (by omega)]
theorem snapsW_pre {b l y n s r : Int} (h : PreG b l y n s r) : snapsW b y n = snapsG b y n := by
  have hs := snaps_bd h
  unfold snapsG at hs
  obtain ⟨h1, h2, h3, h4, h5, h6, h7, h8, h9, h10, h11, h12, h13, h14⟩ := h
  unfold snapsW snapsG
  have he : 6 * n + 10 * b + (y - 1) = 6 * n + 10 * b + y - 1 := by omega
  rw [he] at hs ⊢
  rw [if_neg (by omega), wrap64_of (x := 6 * n) (by omega), wrap64_of (x := 10 * b) (by omega), wrap64_of (x := 6 * n + 10 * b) (by omega), wrap64_of (x := 6 * n + 10 * b + y) (by omega), wrap64_of (x := 6 * n + 10 * b + y - 1) (by omega), Int.tdiv_eq_ediv_of_nonneg (by omega), wrap64_of (by omega)]
theorem ge_most_any (b l y n s r : Int) (w : World) :
    Calls Try.prog 41 #[.agg (gv b l y n s r)] w fun e w' => e = .returned (.int .i64 (mostW b l s)) ∧ Below w.heap.size w w' := by
  have HB := Lib.hid ((Below.refl w.heap.size w).alloc (Nat.le_refl _) (.cells (gv b l y n s r) 23))
  unfold gv at *
  go_enter Try.func41, Try.ntmps41
  go_wp2_with fail
  go_ret
  exact ⟨rfl, HB.out⟩
theorem ge_snaps_any (b l y n s r : Int) (w : World) :
    Calls Try.prog 42 #[.agg (gv b l y n s r)] w fun e w' => e = .returned (.int .i64 (snapsW b y n)) ∧ Below w.heap.size w w' := by
  have HB := Lib.hid ((Below.refl w.heap.size w).alloc (Nat.le_refl _) (.cells (gv b l y n s r) 23))
  have HS : Hid (y < 1 → snapsW b y n = 0) := fun h => if_pos h
  have HS2 : Hid (¬ y < 1 → snapsW b y n = wrap64 ((wrap64 (wrap64 (wrap64 (wrap64 (6 * n) + wrap64 (10 * b)) + y) - 1)).tdiv y)) := fun h => if_neg h
  obtain ⟨k, hk⟩ : ∃ k, snapsW b y n = k := ⟨_, rfl⟩
  rw [hk] at HS HS2 ⊢
  unfold gv at *
  clear hk
  by_cases h : y < 1
  · go_enter Try.func42, Try.ntmps42
    go_wp2_with fail
    go_ret
    exact ⟨ret_int (HS.out (by omega)).symm, HB.out⟩
  · go_enter Try.func42, Try.ntmps42
    go_wp2_with fail
    go_ret
    exact ⟨ret_int (HS2.out (by omega)).symm, HB.out⟩
/-- all of some conditions -/
theorem all_getD (bs : List Bool) (j : Nat) (hj : j < bs.length) (h : bs.getD j false = false) : bs.all id = false := by
  rw [List.all_eq_false]
  refine ⟨bs[j], List.getElem_mem hj, ?_⟩
  rw [List.getD, List.getElem?_eq_getElem hj] at h
  simp at h
  simp [h]
theorem take_all (bs : List Bool) (j : Nat) (hj : j < bs.length) (h : (bs.take j).all id = true) (hb : bs.getD j false = true) : (bs.take (j + 1)).all id = true := by
  rw [List.take_add_one, List.all_append, h, Bool.true_and]
  rw [List.getD, List.getElem?_eq_getElem hj] at hb
  rw [List.getElem?_eq_getElem hj]
  simp at hb
  simp [hb]
theorem all_any (g cap : Nat) (bs : List Bool) (w : World) (hz : bs.length ≤ 1000) (hc : ∀ j, j < bs.length → w.cell? ⟨g, j, none⟩ = some (.bool (bs.getD j false))) :
    Calls Try.prog 39 #[.slice (some ⟨g, 0, none⟩) bs.length cap] w fun e w' => e = .returned (.bool (bs.all id)) ∧ w = w' := by
  obtain ⟨m, hm⟩ : ∃ m, bs.length = m := ⟨_, rfl⟩
  rw [hm] at hz hc ⊢
  have HM := Lib.hid hm
  have HC := Lib.hid hc
  clear hm hc
  go_enter Try.func39, Try.ntmps39
  go_wp2_with fail
  go_loop [7] (fun i => ∃ j : Nat, j ≤ m ∧ i = .int .i64 j ∧ (bs.take j).all id = true) (fun i => m - (intOf i).toNat)
  case atStart => exact ⟨0, Nat.zero_le _, rfl, rfl⟩
  case round =>
    obtain ⟨j, hj, rfl, hall⟩ := hrel
    by_cases hlt : j < m
    · have hcj := HC.out j hlt
      have HN := Lib.hid (fun h => all_getD bs j (by rw [HM.out]; exact hlt) h)
      have HT := Lib.hid (fun h => take_all bs j (by rw [HM.out]; exact hlt) hall h)
      obtain ⟨b, hb⟩ : ∃ b, bs.getD j false = b := ⟨_, rfl⟩
      rw [hb] at hcj
      have HB := Lib.hid hb
      clear hb hall
      cases b with
      | false =>
        have HF := Lib.hid (HN.out HB.out)
        go_wp2_with fail
        go_ret
        exact ⟨by rw [HF.out]; rfl, rfl⟩
      | true =>
        have HR := Lib.hid (HT.out HB.out)
        go_wp2_with fail
        go_round
        case rel => exact ⟨j + 1, by omega, by go_num, HR.out⟩
        case measure => simp [intOf]; omega
    · obtain rfl : j = m := by omega
      have HA : Hid (bs.all id = true) := by
        have h := hall
        rwa [List.take_of_length_le (by rw [HM.out]; exact Nat.le_refl _)] at h
      clear hall
      go_wp2_with fail
      go_ret
      exact ⟨by rw [HA.out]; rfl, rfl⟩


end Go.Proofs.Ytgnjknboahcmgaa

/- Layer 6, the code's Check. -/
namespace Go.Proofs.Ytgnjknboahcmgaa
set_option maxRecDepth 100000
open Go.RowKit

/-- the conditions, as the code has them -/
def ckL (b l y n s r : Int) : List Bool := [fromB b 8 64, fromB l 6 64, fromB y 16 256, decide (y.tmod 8 = 0), fromB s 0 16, decide (s ≤ IntKind.i64.wrap (b - 8)), fromB r 2 1000, fromB n 1 4096, decide (n ≤ mostW b l s), decide (snapsW b y n ≤ IntKind.i64.wrap (l - 4))]
def ckB (b l y n s r : Int) : Bool := (ckL b l y n s r).all id
theorem i64_of {x : Int} (h : -9223372036854775808 ≤ x ∧ x ≤ 9223372036854775807) : IntKind.i64.wrap x = x := by rw [IntKind.wrap_i64]; omega
theorem ck_iff (b l y n s r : Int) : ckB b l y n s r = true ↔ OkG b l y n s r := by
  have h0 : ckB b l y n s r = true ↔ (8 ≤ b ∧ b ≤ 64) ∧ (6 ≤ l ∧ l ≤ 64) ∧ (16 ≤ y ∧ y ≤ 256) ∧ y.tmod 8 = 0 ∧ (0 ≤ s ∧ s ≤ 16) ∧ s ≤ IntKind.i64.wrap (b - 8) ∧ (2 ≤ r ∧ r ≤ 1000) ∧ (1 ≤ n ∧ n ≤ 4096) ∧ n ≤ mostW b l s ∧ snapsW b y n ≤ IntKind.i64.wrap (l - 4) := by
    simp only [ckB, ckL, fromB, List.all_cons, List.all_nil, id, Bool.and_eq_true, decide_eq_true_eq, and_true]
  rw [h0]
  constructor
  · rintro ⟨⟨h1, h2⟩, ⟨h3, h4⟩, ⟨h5, h6⟩, h7, ⟨h8, h9⟩, h10, ⟨h11, h12⟩, ⟨h13, h14⟩, h15, h16⟩
    rw [i64_of (by omega)] at h10 h16
    rw [Int.tmod_eq_emod_of_nonneg (by omega)] at h7
    have hp : PreG b l y n s r := ⟨h1, h2, h3, h4, h5, h6, h7, h8, h9, h10, h11, h12, h13, h14⟩
    rw [mostW_pre hp] at h15
    rw [snapsW_pre hp] at h16
    exact ⟨hp, h15, h16⟩
  · rintro ⟨hp, h15, h16⟩
    rw [mostW_pre hp, snapsW_pre hp]
    obtain ⟨h1, h2, h3, h4, h5, h6, h7, h8, h9, h10, h11, h12, h13, h14⟩ := hp
    rw [i64_of (x := b - 8) (by omega), i64_of (x := l - 4) (by omega), Int.tmod_eq_emod_of_nonneg (by omega)]
    exact ⟨⟨h1, h2⟩, ⟨h3, h4⟩, ⟨h5, h6⟩, h7, ⟨h8, h9⟩, h10, ⟨h11, h12⟩, ⟨h13, h14⟩, h15, h16⟩
def bools (bs : List Bool) : Array Value := (bs.map Value.bool).toArray
theorem bools_cell {w : World} {g : Nat} {bs : List Bool} {t : TypeId} (h : Blk w g (bools bs) t) : ∀ j, j < bs.length → w.cell? ⟨g, j, none⟩ = some (.bool (bs.getD j false)) := by
  intro j hj
  rw [h.cell j]
  simp [bools, hj]
/-- the slice of conditions, made -/
def MadeB (d : Tmp) (n : Nat) (bs : List Bool) (_ : Nat) (a : Act) (w : World) : Prop := ∃ (g : Nat) (t : TypeId), a.tmps.getD d undef = .slice (some ⟨g, 0, none⟩) n n ∧ Blk w g (bools bs) t
theorem MadeB.ext {d : Tmp} {n : Nat} {bs : List Bool} : ∀ (j : Nat) (a a' : Act) (w w' : World), MadeB d n bs j a w → (∀ x ∈ ([d] : List Tmp), a'.tmps.getD x undef = a.tmps.getD x undef) → Goes w w' → MadeB d n bs j a' w' := by
  rintro j a a' w w' ⟨g, t, h1, h2⟩ hd hT
  exact ⟨g, t, (hd d (by simp)).trans h1, h2.after hT⟩

/-- what each operation of the region CK leaves -/
def vsCK (B : Nat) (b l y n s r : Int) : List (Option (Tmp × Value)) :=
  [some (3, .pointer (some ⟨B, 0, none⟩)), some (4, .int .i64 b), some (5, .bool (fromB b 8 64)), some (6, .pointer (some ⟨B, 1, none⟩)), some (7, .int .i64 l), some (8, .bool (fromB l 6 64)), some (9, .pointer (some ⟨B, 2, none⟩)), some (10, .int .i64 y), some (11, .bool (fromB y 16 256)), some (12, .pointer (some ⟨B, 2, none⟩)), some (13, .int .i64 y), some (14, .int .i64 (y.tmod 8)), some (15, .bool (decide (y.tmod 8 = 0))), some (16, .pointer (some ⟨B, 4, none⟩)), some (17, .int .i64 s), some (18, .bool (fromB s 0 16)), some (19, .pointer (some ⟨B, 4, none⟩)), some (20, .int .i64 s), some (21, .pointer (some ⟨B, 0, none⟩)), some (22, .int .i64 b), some (23, .int .i64 (IntKind.i64.wrap (b - 8))), some (24, .bool (decide (s ≤ IntKind.i64.wrap (b - 8)))), some (25, .pointer (some ⟨B, 5, none⟩)), some (26, .int .i64 r), some (27, .bool (fromB r 2 1000)), some (28, .pointer (some ⟨B, 3, none⟩)), some (29, .int .i64 n), some (30, .bool (fromB n 1 4096)), some (31, .pointer (some ⟨B, 3, none⟩)), some (32, .int .i64 n), some (33, .agg (gv b l y n s r)), some (34, .int .i64 (mostW b l s)), some (35, .bool (decide (n ≤ mostW b l s))), some (36, .agg (gv b l y n s r)), some (37, .int .i64 (snapsW b y n)), some (38, .pointer (some ⟨B, 1, none⟩)), some (39, .int .i64 l), some (40, .int .i64 (IntKind.i64.wrap (l - 4))), some (41, .bool (decide (snapsW b y n ≤ IntKind.i64.wrap (l - 4)))), none, some (43, .bool (ckB b l y n s r)), some (44, .bool (!ckB b l y n s r))]
/-- the frame while the region CK runs -/
def BaseCK (B : Nat) (a : Act) : Prop := ∃ u : Nat → Value, a = ⟨#[u 0, .pointer (some ⟨B, 0, none⟩), u 2, u 3, u 4, u 5, u 6, u 7, u 8, u 9, u 10, u 11, u 12, u 13, u 14, u 15, u 16, u 17, u 18, u 19, u 20, u 21, u 22, u 23, u 24, u 25, u 26, u 27, u 28, u 29, u 30, u 31, u 32, u 33, u 34, u 35, u 36, u 37, u 38, u 39, u 40, u 41, u 42, u 43, u 44], []⟩
theorem BaseCK.of {B : Nat} (arr : Array Value) (h : arr = #[arr.getD 0 undef, .pointer (some ⟨B, 0, none⟩), arr.getD 2 undef, arr.getD 3 undef, arr.getD 4 undef, arr.getD 5 undef, arr.getD 6 undef, arr.getD 7 undef, arr.getD 8 undef, arr.getD 9 undef, arr.getD 10 undef, arr.getD 11 undef, arr.getD 12 undef, arr.getD 13 undef, arr.getD 14 undef, arr.getD 15 undef, arr.getD 16 undef, arr.getD 17 undef, arr.getD 18 undef, arr.getD 19 undef, arr.getD 20 undef, arr.getD 21 undef, arr.getD 22 undef, arr.getD 23 undef, arr.getD 24 undef, arr.getD 25 undef, arr.getD 26 undef, arr.getD 27 undef, arr.getD 28 undef, arr.getD 29 undef, arr.getD 30 undef, arr.getD 31 undef, arr.getD 32 undef, arr.getD 33 undef, arr.getD 34 undef, arr.getD 35 undef, arr.getD 36 undef, arr.getD 37 undef, arr.getD 38 undef, arr.getD 39 undef, arr.getD 40 undef, arr.getD 41 undef, arr.getD 42 undef, arr.getD 43 undef, arr.getD 44 undef]) : BaseCK B ⟨arr, []⟩ := ⟨fun i => arr.getD i undef, by rw [← h]⟩
theorem BaseCK.put3 {B : Nat} (a : Act) (v : Value) (h : BaseCK B a) : BaseCK B (a.put (some 3) v) := by
  obtain ⟨u, rfl⟩ := h
  exact ⟨fun i => if i = 3 then v else u i, by kernel_rfl⟩
theorem BaseCK.put4 {B : Nat} (a : Act) (v : Value) (h : BaseCK B a) : BaseCK B (a.put (some 4) v) := by
  obtain ⟨u, rfl⟩ := h
  exact ⟨fun i => if i = 4 then v else u i, by kernel_rfl⟩
theorem BaseCK.put5 {B : Nat} (a : Act) (v : Value) (h : BaseCK B a) : BaseCK B (a.put (some 5) v) := by
  obtain ⟨u, rfl⟩ := h
  exact ⟨fun i => if i = 5 then v else u i, by kernel_rfl⟩
theorem BaseCK.put6 {B : Nat} (a : Act) (v : Value) (h : BaseCK B a) : BaseCK B (a.put (some 6) v) := by
  obtain ⟨u, rfl⟩ := h
  exact ⟨fun i => if i = 6 then v else u i, by kernel_rfl⟩
theorem BaseCK.put7 {B : Nat} (a : Act) (v : Value) (h : BaseCK B a) : BaseCK B (a.put (some 7) v) := by
  obtain ⟨u, rfl⟩ := h
  exact ⟨fun i => if i = 7 then v else u i, by kernel_rfl⟩
theorem BaseCK.put8 {B : Nat} (a : Act) (v : Value) (h : BaseCK B a) : BaseCK B (a.put (some 8) v) := by
  obtain ⟨u, rfl⟩ := h
  exact ⟨fun i => if i = 8 then v else u i, by kernel_rfl⟩
theorem BaseCK.put9 {B : Nat} (a : Act) (v : Value) (h : BaseCK B a) : BaseCK B (a.put (some 9) v) := by
  obtain ⟨u, rfl⟩ := h
  exact ⟨fun i => if i = 9 then v else u i, by kernel_rfl⟩
theorem BaseCK.put10 {B : Nat} (a : Act) (v : Value) (h : BaseCK B a) : BaseCK B (a.put (some 10) v) := by
  obtain ⟨u, rfl⟩ := h
  exact ⟨fun i => if i = 10 then v else u i, by kernel_rfl⟩
theorem BaseCK.put11 {B : Nat} (a : Act) (v : Value) (h : BaseCK B a) : BaseCK B (a.put (some 11) v) := by
  obtain ⟨u, rfl⟩ := h
  exact ⟨fun i => if i = 11 then v else u i, by kernel_rfl⟩
theorem BaseCK.put12 {B : Nat} (a : Act) (v : Value) (h : BaseCK B a) : BaseCK B (a.put (some 12) v) := by
  obtain ⟨u, rfl⟩ := h
  exact ⟨fun i => if i = 12 then v else u i, by kernel_rfl⟩
theorem BaseCK.put13 {B : Nat} (a : Act) (v : Value) (h : BaseCK B a) : BaseCK B (a.put (some 13) v) := by
  obtain ⟨u, rfl⟩ := h
  exact ⟨fun i => if i = 13 then v else u i, by kernel_rfl⟩
theorem BaseCK.put14 {B : Nat} (a : Act) (v : Value) (h : BaseCK B a) : BaseCK B (a.put (some 14) v) := by
  obtain ⟨u, rfl⟩ := h
  exact ⟨fun i => if i = 14 then v else u i, by kernel_rfl⟩
theorem BaseCK.put15 {B : Nat} (a : Act) (v : Value) (h : BaseCK B a) : BaseCK B (a.put (some 15) v) := by
  obtain ⟨u, rfl⟩ := h
  exact ⟨fun i => if i = 15 then v else u i, by kernel_rfl⟩
theorem BaseCK.put16 {B : Nat} (a : Act) (v : Value) (h : BaseCK B a) : BaseCK B (a.put (some 16) v) := by
  obtain ⟨u, rfl⟩ := h
  exact ⟨fun i => if i = 16 then v else u i, by kernel_rfl⟩
theorem BaseCK.put17 {B : Nat} (a : Act) (v : Value) (h : BaseCK B a) : BaseCK B (a.put (some 17) v) := by
  obtain ⟨u, rfl⟩ := h
  exact ⟨fun i => if i = 17 then v else u i, by kernel_rfl⟩
theorem BaseCK.put18 {B : Nat} (a : Act) (v : Value) (h : BaseCK B a) : BaseCK B (a.put (some 18) v) := by
  obtain ⟨u, rfl⟩ := h
  exact ⟨fun i => if i = 18 then v else u i, by kernel_rfl⟩
theorem BaseCK.put19 {B : Nat} (a : Act) (v : Value) (h : BaseCK B a) : BaseCK B (a.put (some 19) v) := by
  obtain ⟨u, rfl⟩ := h
  exact ⟨fun i => if i = 19 then v else u i, by kernel_rfl⟩
theorem BaseCK.put20 {B : Nat} (a : Act) (v : Value) (h : BaseCK B a) : BaseCK B (a.put (some 20) v) := by
  obtain ⟨u, rfl⟩ := h
  exact ⟨fun i => if i = 20 then v else u i, by kernel_rfl⟩
theorem BaseCK.put21 {B : Nat} (a : Act) (v : Value) (h : BaseCK B a) : BaseCK B (a.put (some 21) v) := by
  obtain ⟨u, rfl⟩ := h
  exact ⟨fun i => if i = 21 then v else u i, by kernel_rfl⟩
theorem BaseCK.put22 {B : Nat} (a : Act) (v : Value) (h : BaseCK B a) : BaseCK B (a.put (some 22) v) := by
  obtain ⟨u, rfl⟩ := h
  exact ⟨fun i => if i = 22 then v else u i, by kernel_rfl⟩
theorem BaseCK.put23 {B : Nat} (a : Act) (v : Value) (h : BaseCK B a) : BaseCK B (a.put (some 23) v) := by
  obtain ⟨u, rfl⟩ := h
  exact ⟨fun i => if i = 23 then v else u i, by kernel_rfl⟩
theorem BaseCK.put24 {B : Nat} (a : Act) (v : Value) (h : BaseCK B a) : BaseCK B (a.put (some 24) v) := by
  obtain ⟨u, rfl⟩ := h
  exact ⟨fun i => if i = 24 then v else u i, by kernel_rfl⟩
theorem BaseCK.put25 {B : Nat} (a : Act) (v : Value) (h : BaseCK B a) : BaseCK B (a.put (some 25) v) := by
  obtain ⟨u, rfl⟩ := h
  exact ⟨fun i => if i = 25 then v else u i, by kernel_rfl⟩
theorem BaseCK.put26 {B : Nat} (a : Act) (v : Value) (h : BaseCK B a) : BaseCK B (a.put (some 26) v) := by
  obtain ⟨u, rfl⟩ := h
  exact ⟨fun i => if i = 26 then v else u i, by kernel_rfl⟩
theorem BaseCK.put27 {B : Nat} (a : Act) (v : Value) (h : BaseCK B a) : BaseCK B (a.put (some 27) v) := by
  obtain ⟨u, rfl⟩ := h
  exact ⟨fun i => if i = 27 then v else u i, by kernel_rfl⟩
theorem BaseCK.put28 {B : Nat} (a : Act) (v : Value) (h : BaseCK B a) : BaseCK B (a.put (some 28) v) := by
  obtain ⟨u, rfl⟩ := h
  exact ⟨fun i => if i = 28 then v else u i, by kernel_rfl⟩
theorem BaseCK.put29 {B : Nat} (a : Act) (v : Value) (h : BaseCK B a) : BaseCK B (a.put (some 29) v) := by
  obtain ⟨u, rfl⟩ := h
  exact ⟨fun i => if i = 29 then v else u i, by kernel_rfl⟩
theorem BaseCK.put30 {B : Nat} (a : Act) (v : Value) (h : BaseCK B a) : BaseCK B (a.put (some 30) v) := by
  obtain ⟨u, rfl⟩ := h
  exact ⟨fun i => if i = 30 then v else u i, by kernel_rfl⟩
theorem BaseCK.put31 {B : Nat} (a : Act) (v : Value) (h : BaseCK B a) : BaseCK B (a.put (some 31) v) := by
  obtain ⟨u, rfl⟩ := h
  exact ⟨fun i => if i = 31 then v else u i, by kernel_rfl⟩
theorem BaseCK.put32 {B : Nat} (a : Act) (v : Value) (h : BaseCK B a) : BaseCK B (a.put (some 32) v) := by
  obtain ⟨u, rfl⟩ := h
  exact ⟨fun i => if i = 32 then v else u i, by kernel_rfl⟩
theorem BaseCK.put33 {B : Nat} (a : Act) (v : Value) (h : BaseCK B a) : BaseCK B (a.put (some 33) v) := by
  obtain ⟨u, rfl⟩ := h
  exact ⟨fun i => if i = 33 then v else u i, by kernel_rfl⟩
theorem BaseCK.put34 {B : Nat} (a : Act) (v : Value) (h : BaseCK B a) : BaseCK B (a.put (some 34) v) := by
  obtain ⟨u, rfl⟩ := h
  exact ⟨fun i => if i = 34 then v else u i, by kernel_rfl⟩
theorem BaseCK.put35 {B : Nat} (a : Act) (v : Value) (h : BaseCK B a) : BaseCK B (a.put (some 35) v) := by
  obtain ⟨u, rfl⟩ := h
  exact ⟨fun i => if i = 35 then v else u i, by kernel_rfl⟩
theorem BaseCK.put36 {B : Nat} (a : Act) (v : Value) (h : BaseCK B a) : BaseCK B (a.put (some 36) v) := by
  obtain ⟨u, rfl⟩ := h
  exact ⟨fun i => if i = 36 then v else u i, by kernel_rfl⟩
theorem BaseCK.put37 {B : Nat} (a : Act) (v : Value) (h : BaseCK B a) : BaseCK B (a.put (some 37) v) := by
  obtain ⟨u, rfl⟩ := h
  exact ⟨fun i => if i = 37 then v else u i, by kernel_rfl⟩
theorem BaseCK.put38 {B : Nat} (a : Act) (v : Value) (h : BaseCK B a) : BaseCK B (a.put (some 38) v) := by
  obtain ⟨u, rfl⟩ := h
  exact ⟨fun i => if i = 38 then v else u i, by kernel_rfl⟩
theorem BaseCK.put39 {B : Nat} (a : Act) (v : Value) (h : BaseCK B a) : BaseCK B (a.put (some 39) v) := by
  obtain ⟨u, rfl⟩ := h
  exact ⟨fun i => if i = 39 then v else u i, by kernel_rfl⟩
theorem BaseCK.put40 {B : Nat} (a : Act) (v : Value) (h : BaseCK B a) : BaseCK B (a.put (some 40) v) := by
  obtain ⟨u, rfl⟩ := h
  exact ⟨fun i => if i = 40 then v else u i, by kernel_rfl⟩
theorem BaseCK.put41 {B : Nat} (a : Act) (v : Value) (h : BaseCK B a) : BaseCK B (a.put (some 41) v) := by
  obtain ⟨u, rfl⟩ := h
  exact ⟨fun i => if i = 41 then v else u i, by kernel_rfl⟩
theorem BaseCK.put42 {B : Nat} (a : Act) (v : Value) (h : BaseCK B a) : BaseCK B (a.put (some 42) v) := by
  obtain ⟨u, rfl⟩ := h
  exact ⟨fun i => if i = 42 then v else u i, by kernel_rfl⟩
theorem BaseCK.put43 {B : Nat} (a : Act) (v : Value) (h : BaseCK B a) : BaseCK B (a.put (some 43) v) := by
  obtain ⟨u, rfl⟩ := h
  exact ⟨fun i => if i = 43 then v else u i, by kernel_rfl⟩
theorem BaseCK.put44 {B : Nat} (a : Act) (v : Value) (h : BaseCK B a) : BaseCK B (a.put (some 44) v) := by
  obtain ⟨u, rfl⟩ := h
  exact ⟨fun i => if i = 44 then v else u i, by kernel_rfl⟩

set_option maxHeartbeats 1000000 in
set_option maxRecDepth 100000 in
theorem ge_check (b l y n s r : Int) (w : World) : Calls Try.prog 25 #[.agg (gv b l y n s r)] w (ChkT b l y n s r w) := by
  have HC0 : Hid (CG w b l y n s r (w.alloc (.cells (gv b l y n s r) 23))) := ⟨Blk.new w _ _, (Below.refl w.heap.size w).alloc (Nat.le_refl _) _⟩
  unfold ChkT
  have HY : Hid (ckB b l y n s r = true → chkG b l y n s r = 0) := fun h => chk_ok ((ck_iff b l y n s r).1 h)
  have HN : Hid (ckB b l y n s r = false → chkG b l y n s r = 60) := fun h => chk_no (fun h2 => by rw [(ck_iff b l y n s r).2 h2] at h; exact absurd h (by simp))
  obtain ⟨ck, hck⟩ : ∃ ck, chkG b l y n s r = ck := ⟨_, rfl⟩
  rw [hck] at HY HN ⊢
  clear hck
  go_enter Try.func25, Try.ntmps25
  unfold gv at *
  go_wp2_with fail
  rename_i K0 hK0
  refine wp_region_list3 (SV (vsCK w.heap.size b l y n s r) [42]) (BaseCK w.heap.size) (CG w b l y n s r) Goes (RV (vsCK w.heap.size b l y n s r) (MadeB 42 10 (ckL b l y n s r))) rfl (by kernel_rfl) (RV.ext MadeB.ext) ?_ HC0.out.drew (BaseCK.of _ (by kernel_rfl)) ?_ ?_
  · exact ⟨BaseCK.put3, BaseCK.put4, BaseCK.put5, BaseCK.put6, BaseCK.put7, BaseCK.put8, BaseCK.put9, BaseCK.put10, BaseCK.put11, BaseCK.put12, BaseCK.put13, BaseCK.put14, BaseCK.put15, BaseCK.put16, BaseCK.put17, BaseCK.put18, BaseCK.put19, BaseCK.put20, BaseCK.put21, BaseCK.put22, BaseCK.put23, BaseCK.put24, BaseCK.put25, BaseCK.put26, BaseCK.put27, BaseCK.put28, BaseCK.put29, BaseCK.put30, BaseCK.put31, BaseCK.put32, BaseCK.put33, BaseCK.put34, BaseCK.put35, BaseCK.put36, BaseCK.put37, BaseCK.put38, BaseCK.put39, BaseCK.put40, BaseCK.put41, BaseCK.put42, BaseCK.put43, BaseCK.put44, trivial⟩
  · refine ⟨?_, ?_, ?_, ?_, ?_, ?_, ?_, ?_, ?_, ?_, ?_, ?_, ?_, ?_, ?_, ?_, ?_, ?_, ?_, ?_, ?_, ?_, ?_, ?_, ?_, ?_, ?_, ?_, ?_, ?_, ?_, ?_, ?_, ?_, ?_, ?_, ?_, ?_, ?_, ?_, ?_, ?_, trivial⟩
    all_goals
      intro a w' hC hB hR
      obtain ⟨u, rfl⟩ := hB
      have HC := Lib.hid hC
      clear hC
    · clear hR
      refine if_yes (by kernel_rfl) ?_
      unfold Oper.wp
      go_simp
      exact ⟨.pointer (some ⟨w.heap.size, 0, none⟩), rfl, HC.out, Below.refl _ _, rfl⟩
    · have h3 : u 3 = .pointer (some ⟨w.heap.size, 0, none⟩) := hR ⟨0, .data⟩ (by simp) rfl
      have hc : w'.cell? ⟨w.heap.size, 0, none⟩ = some (.int .i64 b) := HC.out.1.cell 0
      clear hR
      simp only [h3]
      clear h3
      refine if_yes (by kernel_rfl) ?_
      unfold Oper.wp
      go_simp
      exact ⟨.int .i64 b, rfl, HC.out, Below.refl _ _, rfl⟩
    · have h4 : u 4 = .int .i64 b := hR ⟨1, .data⟩ (by simp) rfl
      clear hR
      simp only [h4]
      clear h4
      refine if_yes (by kernel_rfl) ?_
      unfold Oper.wp
      go_simp
      refine (is_from b 8 64 _).mono ?_
      rintro e w2 ⟨rfl, hb2⟩
      exact ⟨.bool (fromB b 8 64), rfl, HC.out.call hb2, hb2, rfl⟩
    · clear hR
      refine if_yes (by kernel_rfl) ?_
      unfold Oper.wp
      go_simp
      exact ⟨.pointer (some ⟨w.heap.size, 1, none⟩), rfl, HC.out, Below.refl _ _, rfl⟩
    · have h6 : u 6 = .pointer (some ⟨w.heap.size, 1, none⟩) := hR ⟨3, .data⟩ (by simp) rfl
      have hc : w'.cell? ⟨w.heap.size, 1, none⟩ = some (.int .i64 l) := HC.out.1.cell 1
      clear hR
      simp only [h6]
      clear h6
      refine if_yes (by kernel_rfl) ?_
      unfold Oper.wp
      go_simp
      exact ⟨.int .i64 l, rfl, HC.out, Below.refl _ _, rfl⟩
    · have h7 : u 7 = .int .i64 l := hR ⟨4, .data⟩ (by simp) rfl
      clear hR
      simp only [h7]
      clear h7
      refine if_yes (by kernel_rfl) ?_
      unfold Oper.wp
      go_simp
      refine (is_from l 6 64 _).mono ?_
      rintro e w2 ⟨rfl, hb2⟩
      exact ⟨.bool (fromB l 6 64), rfl, HC.out.call hb2, hb2, rfl⟩
    · clear hR
      refine if_yes (by kernel_rfl) ?_
      unfold Oper.wp
      go_simp
      exact ⟨.pointer (some ⟨w.heap.size, 2, none⟩), rfl, HC.out, Below.refl _ _, rfl⟩
    · have h9 : u 9 = .pointer (some ⟨w.heap.size, 2, none⟩) := hR ⟨6, .data⟩ (by simp) rfl
      have hc : w'.cell? ⟨w.heap.size, 2, none⟩ = some (.int .i64 y) := HC.out.1.cell 2
      clear hR
      simp only [h9]
      clear h9
      refine if_yes (by kernel_rfl) ?_
      unfold Oper.wp
      go_simp
      exact ⟨.int .i64 y, rfl, HC.out, Below.refl _ _, rfl⟩
    · have h10 : u 10 = .int .i64 y := hR ⟨7, .data⟩ (by simp) rfl
      clear hR
      simp only [h10]
      clear h10
      refine if_yes (by kernel_rfl) ?_
      unfold Oper.wp
      go_simp
      refine (is_from y 16 256 _).mono ?_
      rintro e w2 ⟨rfl, hb2⟩
      exact ⟨.bool (fromB y 16 256), rfl, HC.out.call hb2, hb2, rfl⟩
    · clear hR
      refine if_yes (by kernel_rfl) ?_
      unfold Oper.wp
      go_simp
      exact ⟨.pointer (some ⟨w.heap.size, 2, none⟩), rfl, HC.out, Below.refl _ _, rfl⟩
    · have h12 : u 12 = .pointer (some ⟨w.heap.size, 2, none⟩) := hR ⟨9, .data⟩ (by simp) rfl
      have hc : w'.cell? ⟨w.heap.size, 2, none⟩ = some (.int .i64 y) := HC.out.1.cell 2
      clear hR
      simp only [h12]
      clear h12
      refine if_yes (by kernel_rfl) ?_
      unfold Oper.wp
      go_simp
      exact ⟨.int .i64 y, rfl, HC.out, Below.refl _ _, rfl⟩
    · have h13 : u 13 = .int .i64 y := hR ⟨10, .data⟩ (by simp) rfl
      clear hR
      simp only [h13]
      clear h13
      refine if_yes (by kernel_rfl) ?_
      unfold Oper.wp
      go_simp
      exact ⟨.int .i64 (y.tmod 8), rfl, HC.out, Below.refl _ _, rfl⟩
    · have h14 : u 14 = .int .i64 (y.tmod 8) := hR ⟨11, .data⟩ (by simp) rfl
      clear hR
      simp only [h14]
      clear h14
      refine if_yes (by kernel_rfl) ?_
      unfold Oper.wp
      go_simp
      exact ⟨_, rfl, HC.out, Below.refl _ _, congrArg Value.bool (by first | rfl | (rw [Bool.eq_iff_iff]; simp; done) | (rw [Bool.eq_iff_iff]; simp; omega))⟩
    · clear hR
      refine if_yes (by kernel_rfl) ?_
      unfold Oper.wp
      go_simp
      exact ⟨.pointer (some ⟨w.heap.size, 4, none⟩), rfl, HC.out, Below.refl _ _, rfl⟩
    · have h16 : u 16 = .pointer (some ⟨w.heap.size, 4, none⟩) := hR ⟨13, .data⟩ (by simp) rfl
      have hc : w'.cell? ⟨w.heap.size, 4, none⟩ = some (.int .i64 s) := HC.out.1.cell 4
      clear hR
      simp only [h16]
      clear h16
      refine if_yes (by kernel_rfl) ?_
      unfold Oper.wp
      go_simp
      exact ⟨.int .i64 s, rfl, HC.out, Below.refl _ _, rfl⟩
    · have h17 : u 17 = .int .i64 s := hR ⟨14, .data⟩ (by simp) rfl
      clear hR
      simp only [h17]
      clear h17
      refine if_yes (by kernel_rfl) ?_
      unfold Oper.wp
      go_simp
      refine (is_from s 0 16 _).mono ?_
      rintro e w2 ⟨rfl, hb2⟩
      exact ⟨.bool (fromB s 0 16), rfl, HC.out.call hb2, hb2, rfl⟩
    · clear hR
      refine if_yes (by kernel_rfl) ?_
      unfold Oper.wp
      go_simp
      exact ⟨.pointer (some ⟨w.heap.size, 4, none⟩), rfl, HC.out, Below.refl _ _, rfl⟩
    · have h19 : u 19 = .pointer (some ⟨w.heap.size, 4, none⟩) := hR ⟨16, .data⟩ (by simp) rfl
      have hc : w'.cell? ⟨w.heap.size, 4, none⟩ = some (.int .i64 s) := HC.out.1.cell 4
      clear hR
      simp only [h19]
      clear h19
      refine if_yes (by kernel_rfl) ?_
      unfold Oper.wp
      go_simp
      exact ⟨.int .i64 s, rfl, HC.out, Below.refl _ _, rfl⟩
    · clear hR
      refine if_yes (by kernel_rfl) ?_
      unfold Oper.wp
      go_simp
      exact ⟨.pointer (some ⟨w.heap.size, 0, none⟩), rfl, HC.out, Below.refl _ _, rfl⟩
    · have h21 : u 21 = .pointer (some ⟨w.heap.size, 0, none⟩) := hR ⟨18, .data⟩ (by simp) rfl
      have hc : w'.cell? ⟨w.heap.size, 0, none⟩ = some (.int .i64 b) := HC.out.1.cell 0
      clear hR
      simp only [h21]
      clear h21
      refine if_yes (by kernel_rfl) ?_
      unfold Oper.wp
      go_simp
      exact ⟨.int .i64 b, rfl, HC.out, Below.refl _ _, rfl⟩
    · have h22 : u 22 = .int .i64 b := hR ⟨19, .data⟩ (by simp) rfl
      clear hR
      simp only [h22]
      clear h22
      refine if_yes (by kernel_rfl) ?_
      unfold Oper.wp
      go_simp
      exact ⟨.int .i64 (IntKind.i64.wrap (b - 8)), rfl, HC.out, Below.refl _ _, rfl⟩
    · have h20 : u 20 = .int .i64 s := hR ⟨17, .data⟩ (by simp) rfl
      have h23 : u 23 = .int .i64 (IntKind.i64.wrap (b - 8)) := hR ⟨20, .data⟩ (by simp) rfl
      clear hR
      simp only [h20, h23]
      clear h20 h23
      refine if_yes (by kernel_rfl) ?_
      unfold Oper.wp
      go_simp
      exact ⟨_, rfl, HC.out, Below.refl _ _, congrArg Value.bool (by first | rfl | (rw [Bool.eq_iff_iff]; simp; done) | (rw [Bool.eq_iff_iff]; simp; omega))⟩
    · clear hR
      refine if_yes (by kernel_rfl) ?_
      unfold Oper.wp
      go_simp
      exact ⟨.pointer (some ⟨w.heap.size, 5, none⟩), rfl, HC.out, Below.refl _ _, rfl⟩
    · have h25 : u 25 = .pointer (some ⟨w.heap.size, 5, none⟩) := hR ⟨22, .data⟩ (by simp) rfl
      have hc : w'.cell? ⟨w.heap.size, 5, none⟩ = some (.int .i64 r) := HC.out.1.cell 5
      clear hR
      simp only [h25]
      clear h25
      refine if_yes (by kernel_rfl) ?_
      unfold Oper.wp
      go_simp
      exact ⟨.int .i64 r, rfl, HC.out, Below.refl _ _, rfl⟩
    · have h26 : u 26 = .int .i64 r := hR ⟨23, .data⟩ (by simp) rfl
      clear hR
      simp only [h26]
      clear h26
      refine if_yes (by kernel_rfl) ?_
      unfold Oper.wp
      go_simp
      refine (is_from r 2 1000 _).mono ?_
      rintro e w2 ⟨rfl, hb2⟩
      exact ⟨.bool (fromB r 2 1000), rfl, HC.out.call hb2, hb2, rfl⟩
    · clear hR
      refine if_yes (by kernel_rfl) ?_
      unfold Oper.wp
      go_simp
      exact ⟨.pointer (some ⟨w.heap.size, 3, none⟩), rfl, HC.out, Below.refl _ _, rfl⟩
    · have h28 : u 28 = .pointer (some ⟨w.heap.size, 3, none⟩) := hR ⟨25, .data⟩ (by simp) rfl
      have hc : w'.cell? ⟨w.heap.size, 3, none⟩ = some (.int .i64 n) := HC.out.1.cell 3
      clear hR
      simp only [h28]
      clear h28
      refine if_yes (by kernel_rfl) ?_
      unfold Oper.wp
      go_simp
      exact ⟨.int .i64 n, rfl, HC.out, Below.refl _ _, rfl⟩
    · have h29 : u 29 = .int .i64 n := hR ⟨26, .data⟩ (by simp) rfl
      clear hR
      simp only [h29]
      clear h29
      refine if_yes (by kernel_rfl) ?_
      unfold Oper.wp
      go_simp
      refine (is_from n 1 4096 _).mono ?_
      rintro e w2 ⟨rfl, hb2⟩
      exact ⟨.bool (fromB n 1 4096), rfl, HC.out.call hb2, hb2, rfl⟩
    · clear hR
      refine if_yes (by kernel_rfl) ?_
      unfold Oper.wp
      go_simp
      exact ⟨.pointer (some ⟨w.heap.size, 3, none⟩), rfl, HC.out, Below.refl _ _, rfl⟩
    · have h31 : u 31 = .pointer (some ⟨w.heap.size, 3, none⟩) := hR ⟨28, .data⟩ (by simp) rfl
      have hc : w'.cell? ⟨w.heap.size, 3, none⟩ = some (.int .i64 n) := HC.out.1.cell 3
      clear hR
      simp only [h31]
      clear h31
      refine if_yes (by kernel_rfl) ?_
      unfold Oper.wp
      go_simp
      exact ⟨.int .i64 n, rfl, HC.out, Below.refl _ _, rfl⟩
    · clear hR
      refine if_yes (by kernel_rfl) ?_
      exact wp_load_row 23 (.tmp 1) rfl _ rfl 23 _ (0, 0) _ HC.out.1 Try.underlying23 rfl size_geo ⟨.agg (gv b l y n s r), rfl, HC.out, Below.refl _ _, rfl⟩
    · have h33 : u 33 = .agg (gv b l y n s r) := hR ⟨30, .data⟩ (by simp) rfl
      clear hR
      simp only [h33]
      clear h33
      refine if_yes (by kernel_rfl) ?_
      unfold Oper.wp
      go_simp
      refine (ge_most_any b l y n s r _).mono ?_
      rintro e w2 ⟨rfl, hb2⟩
      exact ⟨.int .i64 (mostW b l s), rfl, HC.out.call hb2, hb2, rfl⟩
    · have h32 : u 32 = .int .i64 n := hR ⟨29, .data⟩ (by simp) rfl
      have h34 : u 34 = .int .i64 (mostW b l s) := hR ⟨31, .data⟩ (by simp) rfl
      clear hR
      simp only [h32, h34]
      clear h32 h34
      refine if_yes (by kernel_rfl) ?_
      unfold Oper.wp
      go_simp
      exact ⟨_, rfl, HC.out, Below.refl _ _, congrArg Value.bool (by first | rfl | (rw [Bool.eq_iff_iff]; simp; done) | (rw [Bool.eq_iff_iff]; simp; omega))⟩
    · clear hR
      refine if_yes (by kernel_rfl) ?_
      exact wp_load_row 23 (.tmp 1) rfl _ rfl 23 _ (0, 0) _ HC.out.1 Try.underlying23 rfl size_geo ⟨.agg (gv b l y n s r), rfl, HC.out, Below.refl _ _, rfl⟩
    · have h36 : u 36 = .agg (gv b l y n s r) := hR ⟨33, .data⟩ (by simp) rfl
      clear hR
      simp only [h36]
      clear h36
      refine if_yes (by kernel_rfl) ?_
      unfold Oper.wp
      go_simp
      refine (ge_snaps_any b l y n s r _).mono ?_
      rintro e w2 ⟨rfl, hb2⟩
      exact ⟨.int .i64 (snapsW b y n), rfl, HC.out.call hb2, hb2, rfl⟩
    · clear hR
      refine if_yes (by kernel_rfl) ?_
      unfold Oper.wp
      go_simp
      exact ⟨.pointer (some ⟨w.heap.size, 1, none⟩), rfl, HC.out, Below.refl _ _, rfl⟩
    · have h38 : u 38 = .pointer (some ⟨w.heap.size, 1, none⟩) := hR ⟨35, .data⟩ (by simp) rfl
      have hc : w'.cell? ⟨w.heap.size, 1, none⟩ = some (.int .i64 l) := HC.out.1.cell 1
      clear hR
      simp only [h38]
      clear h38
      refine if_yes (by kernel_rfl) ?_
      unfold Oper.wp
      go_simp
      exact ⟨.int .i64 l, rfl, HC.out, Below.refl _ _, rfl⟩
    · have h39 : u 39 = .int .i64 l := hR ⟨36, .data⟩ (by simp) rfl
      clear hR
      simp only [h39]
      clear h39
      refine if_yes (by kernel_rfl) ?_
      unfold Oper.wp
      go_simp
      exact ⟨.int .i64 (IntKind.i64.wrap (l - 4)), rfl, HC.out, Below.refl _ _, rfl⟩
    · have h37 : u 37 = .int .i64 (snapsW b y n) := hR ⟨34, .data⟩ (by simp) rfl
      have h40 : u 40 = .int .i64 (IntKind.i64.wrap (l - 4)) := hR ⟨37, .data⟩ (by simp) rfl
      clear hR
      simp only [h37, h40]
      clear h37 h40
      refine if_yes (by kernel_rfl) ?_
      unfold Oper.wp
      go_simp
      exact ⟨_, rfl, HC.out, Below.refl _ _, congrArg Value.bool (by first | rfl | (rw [Bool.eq_iff_iff]; simp; done) | (rw [Bool.eq_iff_iff]; simp; omega))⟩
    · have h5 : u 5 = .bool (fromB b 8 64) := hR ⟨2, .data⟩ (by simp) rfl
      have h8 : u 8 = .bool (fromB l 6 64) := hR ⟨5, .data⟩ (by simp) rfl
      have h11 : u 11 = .bool (fromB y 16 256) := hR ⟨8, .data⟩ (by simp) rfl
      have h15 : u 15 = .bool (decide (y.tmod 8 = 0)) := hR ⟨12, .data⟩ (by simp) rfl
      have h18 : u 18 = .bool (fromB s 0 16) := hR ⟨15, .data⟩ (by simp) rfl
      have h24 : u 24 = .bool (decide (s ≤ IntKind.i64.wrap (b - 8))) := hR ⟨21, .data⟩ (by simp) rfl
      have h27 : u 27 = .bool (fromB r 2 1000) := hR ⟨24, .data⟩ (by simp) rfl
      have h30 : u 30 = .bool (fromB n 1 4096) := hR ⟨27, .data⟩ (by simp) rfl
      have h35 : u 35 = .bool (decide (n ≤ mostW b l s)) := hR ⟨32, .data⟩ (by simp) rfl
      have h41 : u 41 = .bool (decide (snapsW b y n ≤ IntKind.i64.wrap (l - 4))) := hR ⟨38, .data⟩ (by simp) rfl
      clear hR
      simp only [h5, h8, h11, h15, h18, h24, h27, h30, h35, h41]
      clear h5 h8 h11 h15 h18 h24 h27 h30 h35 h41
      refine if_yes (by kernel_rfl) ?_
      unfold Oper.wp
      go_simp
      exact ⟨.slice (some ⟨w'.heap.size, 0, none⟩) 10 10, rfl, HC.out.call ((Below.refl _ _).alloc (Nat.le_refl _) _), (Below.refl _ _).alloc (Nat.le_refl _) _, ⟨w'.heap.size, _, rfl, Blk.new w' _ _⟩⟩
    · obtain ⟨g, t, hg, hz⟩ := hR ⟨39, .data⟩ (by simp) rfl
      have hg : u 42 = .slice (some ⟨g, 0, none⟩) 10 10 := hg
      clear hR
      refine if_yes (by kernel_rfl) ?_
      simp only [hg]
      unfold Oper.wp
      go_simp
      refine (all_any g 10 (ckL b l y n s r) _ (by simp [ckL]) (bools_cell hz)).mono ?_
      rintro e w2 ⟨rfl, rfl⟩
      exact ⟨.bool (ckB b l y n s r), rfl, HC.out, Below.refl _ _, rfl⟩
    · have h43 : u 43 = .bool (ckB b l y n s r) := hR ⟨40, .data⟩ (by simp) rfl
      clear hR
      simp only [h43]
      clear h43
      refine if_yes (by kernel_rfl) ?_
      unfold Oper.wp
      go_simp
      exact ⟨.bool (!ckB b l y n s r), rfl, HC.out, Below.refl _ _, rfl⟩
  · intro a w' hC hB hR
    have h44 : a.tmps.getD 44 undef = .bool (!ckB b l y n s r) := hR 41 (by decide)
    clear hR
    have HE := Lib.hid hC.2
    clear hC
    obtain ⟨u, rfl⟩ := hB
    have h44 : u 44 = .bool (!ckB b l y n s r) := h44
    simp only [h44]
    clear h44
    obtain ⟨c, hc⟩ : ∃ c, ckB b l y n s r = c := ⟨_, rfl⟩
    rw [hc] at HY HN ⊢
    clear hc
    cases c with
    | true =>
      have HZ := Lib.hid (HY.out rfl)
      clear HY HN
      go_wp2_with fail
      go_ret
      exact ⟨ret_int HZ.out.symm, HE.out⟩
    | false =>
      have HZ := Lib.hid (HN.out rfl)
      clear HY HN
      go_wp2_with fail
      go_ret
      exact ⟨ret_int HZ.out.symm, HE.out⟩

end Go.Proofs.Ytgnjknboahcmgaa

/- Package state, walked: New. -/
namespace Go.Proofs.Ytgnjknboahcmgaa
set_option maxRecDepth 100000
open Go.RowKit

theorem goes_alloc (w : World) (o : Obj) : Goes w (w.alloc o) := (Below.refl _ _).alloc (Nat.le_refl _) _
/-- no two of four slices in one block, and each in a block that there is -/
def J4 (a b c d : Value) (w : World) : Prop :=
  ((∀ g, a.ownBlock = some g → g < w.heap.size) ∧ (∀ g, b.ownBlock = some g → g < w.heap.size) ∧ (∀ g, c.ownBlock = some g → g < w.heap.size) ∧ ∀ g, d.ownBlock = some g → g < w.heap.size)
  ∧ (Apart a b ∧ Apart a c ∧ Apart a d) ∧ (Apart b c ∧ Apart b d) ∧ Apart c d
theorem J4.nil (w : World) : J4 undef undef undef undef w := ⟨⟨fun _ h => (by cases h), fun _ h => (by cases h), fun _ h => (by cases h), fun _ h => (by cases h)⟩, ⟨fun _ h => (by cases h), fun _ h => (by cases h), fun _ h => (by cases h)⟩, ⟨fun _ h => (by cases h), fun _ h => (by cases h)⟩, fun _ h => (by cases h)⟩
theorem J4.grow {a b c d : Value} {w w' : World} (h : J4 a b c d w) (hz : w.heap.size ≤ w'.heap.size) : J4 a b c d w' :=
  ⟨⟨fun g e => Nat.lt_of_lt_of_le (h.1.1 g e) hz, fun g e => Nat.lt_of_lt_of_le (h.1.2.1 g e) hz, fun g e => Nat.lt_of_lt_of_le (h.1.2.2.1 g e) hz, fun g e => Nat.lt_of_lt_of_le (h.1.2.2.2 g e) hz⟩, h.2⟩
theorem apart_new {v : Value} {z g n k : Nat} (h : ∀ g, v.ownBlock = some g → g < z) (hg : z ≤ g) : Apart (.slice (some ⟨g, 0, none⟩) n k) v ∧ Apart v (.slice (some ⟨g, 0, none⟩) n k) := by
  constructor
  · intro x hx hv
    obtain rfl : g = x := by simpa [Value.ownBlock] using hx
    have := h _ hv; omega
  · intro x hx hv
    obtain rfl : g = x := by simpa [Value.ownBlock] using hv
    have := h _ hx; omega
theorem own_new {g n k z : Nat} (hl : g < z) : ∀ x, (Value.slice (some ⟨g, 0, none⟩) n k).ownBlock = some x → x < z := fun x hx => by
  obtain rfl : g = x := by simpa [Value.ownBlock] using hx
  exact hl
theorem J4.new0 {a b c d : Value} {w w' : World} {g : Nat} (h : J4 a b c d w) (n k : Nat) (hg : w.heap.size ≤ g) (hl : g < w'.heap.size) (hz : w.heap.size ≤ w'.heap.size) : J4 (.slice (some ⟨g, 0, none⟩) n k) b c d w' := by
  have h2 := h.grow hz
  exact ⟨⟨own_new hl, h2.1.2⟩, ⟨(apart_new h.1.2.1 hg).1, (apart_new h.1.2.2.1 hg).1, (apart_new h.1.2.2.2 hg).1⟩, h.2.2⟩
theorem J4.new1 {a b c d : Value} {w w' : World} {g : Nat} (h : J4 a b c d w) (n k : Nat) (hg : w.heap.size ≤ g) (hl : g < w'.heap.size) (hz : w.heap.size ≤ w'.heap.size) : J4 a (.slice (some ⟨g, 0, none⟩) n k) c d w' := by
  have h2 := h.grow hz
  exact ⟨⟨h2.1.1, own_new hl, h2.1.2.2⟩, ⟨(apart_new h.1.1 hg).2, h.2.1.2⟩, ⟨(apart_new h.1.2.2.1 hg).1, (apart_new h.1.2.2.2 hg).1⟩, h.2.2.2⟩
theorem J4.new2 {a b c d : Value} {w w' : World} {g : Nat} (h : J4 a b c d w) (n k : Nat) (hg : w.heap.size ≤ g) (hl : g < w'.heap.size) (hz : w.heap.size ≤ w'.heap.size) : J4 a b (.slice (some ⟨g, 0, none⟩) n k) d w' := by
  have h2 := h.grow hz
  exact ⟨⟨h2.1.1, h2.1.2.1, own_new hl, h2.1.2.2.2⟩, ⟨h.2.1.1, (apart_new h.1.1 hg).2, h.2.1.2.2⟩, ⟨(apart_new h.1.2.1 hg).2, h.2.2.1.2⟩, (apart_new h.1.2.2.2 hg).1⟩
theorem J4.new3 {a b c d : Value} {w w' : World} {g : Nat} (h : J4 a b c d w) (n k : Nat) (hg : w.heap.size ≤ g) (hl : g < w'.heap.size) (hz : w.heap.size ≤ w'.heap.size) : J4 a b c (.slice (some ⟨g, 0, none⟩) n k) w' := by
  have h2 := h.grow hz
  exact ⟨⟨h2.1.1, h2.1.2.1, h2.1.2.2.1, own_new hl⟩, ⟨h.2.1.1, h.2.1.2.1, (apart_new h.1.1 hg).2⟩, ⟨h.2.2.1.1, (apart_new h.1.2.1 hg).2⟩, (apart_new h.1.2.2.1 hg).2⟩
/-- four blocks, no two the same -/
def D4 (g0 g1 g2 g3 : Nat) : Prop := (g0 ≠ g1 ∧ g0 ≠ g2 ∧ g0 ≠ g3) ∧ (g1 ≠ g2 ∧ g1 ≠ g3) ∧ g2 ≠ g3
theorem J4.apart {g0 g1 g2 g3 n0 n1 n2 n3 k0 k1 k2 k3 : Nat} {w : World} (h : J4 (.slice (some ⟨g0, 0, none⟩) n0 k0) (.slice (some ⟨g1, 0, none⟩) n1 k1) (.slice (some ⟨g2, 0, none⟩) n2 k2) (.slice (some ⟨g3, 0, none⟩) n3 k3) w) : D4 g0 g1 g2 g3 := by
  have key : ∀ {g g' n n' k k' : Nat}, Apart (.slice (some ⟨g, 0, none⟩) n k) (.slice (some ⟨g', 0, none⟩) n' k') → g ≠ g' := fun h e => h _ rfl (by simp [Value.ownBlock, e])
  exact ⟨⟨key h.2.1.1, key h.2.1.2.1, key h.2.1.2.2⟩, ⟨key h.2.2.1.1, key h.2.2.1.2⟩, key h.2.2.2⟩
/-- the box of New -/
def CK (w0 : World) (b l y n s r : Int) (w : World) : Prop := Blk w w0.heap.size (gv b l y n s r) 23 ∧ Below w0.heap.size w0 w
theorem CK.after {w0 w w' : World} {b l y n s r : Int} (h : CK w0 b l y n s r w) (hb : Below w.heap.size w w') : CK w0 b l y n s r w' := ⟨h.1.after hb, h.2.trans (hb.mono h.2.size)⟩
theorem CK.alloc {w0 w : World} {b l y n s r : Int} (h : CK w0 b l y n s r w) (o : Obj) : CK w0 b l y n s r (w.alloc o) := h.after ((Below.refl _ _).alloc (Nat.le_refl _) _)
theorem CK.drew {w0 w : World} {b l y n s r : Int} (h : CK w0 b l y n s r w) : CK w0 b l y n s r w.drew := h.after (Below.refl _ _).drew
theorem CK.new (w : World) (b l y n s r : Int) : CK w b l y n s r (w.alloc (.cells (gv b l y n s r) 23)) := ⟨Blk.new _ _ _, (Below.refl _ _).alloc (Nat.le_refl _) _⟩
theorem Nw4.after {b n g0 g1 g2 g3 : Nat} {w w' : World} (h : Nw4 b n g0 g1 g2 g3 w) (hb : Below w.heap.size w w') : Nw4 b n g0 g1 g2 g3 w' := ⟨h.1.after hb, h.2.1.after hb, h.2.2.1.after hb, h.2.2.2.after hb⟩
theorem Nw4.alloc {b n g0 g1 g2 g3 : Nat} {w : World} (h : Nw4 b n g0 g1 g2 g3 w) (o : Obj) : Nw4 b n g0 g1 g2 g3 (w.alloc o) := h.after (goes_alloc _ _)
theorem Nw4.lts {b n g0 g1 g2 g3 : Nat} {w : World} (h : Nw4 b n g0 g1 g2 g3 w) : g0 < w.heap.size ∧ g1 < w.heap.size ∧ g2 < w.heap.size ∧ g3 < w.heap.size := ⟨h.1.lt, h.2.1.lt, h.2.2.1.lt, h.2.2.2.lt⟩
/-- the keeper in block q -/
def NkP (B b n q : Nat) (w : World) : Prop := ∃ g0 g1 g2 g3, D4 g0 g1 g2 g3 ∧ (B ≤ g0 ∧ B ≤ g1 ∧ B ≤ g2 ∧ B ≤ g3) ∧ B ≤ q ∧ (g0 < q ∧ g1 < q ∧ g2 < q ∧ g3 < q) ∧ Blk w q (nwA b n g0 g1 g2 g3) 62 ∧ Nw4 b n g0 g1 g2 g3 w
theorem NkP.after {B b n q : Nat} {w w' : World} (h : NkP B b n q w) (hb : Below w.heap.size w w') : NkP B b n q w' := by
  obtain ⟨g0, g1, g2, g3, h1, h2, h3, h4, h5, h6⟩ := h
  exact ⟨g0, g1, g2, g3, h1, h2, h3, h4, h5.after hb, h6.after hb⟩
theorem row_made {w : World} {g n : Nat} (h : Blk w g (mkC n) 3) (hz : n ≤ 1000000) : RowI w g n n (List.replicate n 0) := by
  refine ⟨List.length_replicate .., ⟨Nat.le_refl _, by unfold maxLen; omega⟩, _, h, ?_⟩
  apply List.ext_getElem?
  intro i
  by_cases hi : i < n
  · rw [List.getElem?_take_of_lt hi]
    unfold intV
    rw [List.getElem?_map, List.getElem?_replicate, if_pos hi]
    simp [mkC, madeCells, hi, Nat.mod_one]
  · rw [List.getElem?_eq_none (by rw [List.length_take]; omega), List.getElem?_eq_none (by simp [intV]; omega)]
theorem NkP.kp {B b n q : Nat} {w : World} (h : NkP B b n q w) (hb : b ≤ 64) (hn : n ≤ 4096) : Kp B w.heap.size w q (newX b n) := by
  obtain ⟨g0, g1, g2, g3, ⟨⟨d1, d2, d3⟩, ⟨d4, d5⟩, d6⟩, ⟨h0, h1, h2, h3⟩, h4, ⟨l0, l1, l2, l3⟩, h5, h6⟩ := h
  have hq := h5.lt
  have hn2 : n ≤ 1000000 := by omega
  have hb2 : b ≤ 1000000 := by omega
  refine ⟨⟨g0, g1, g2, g3, n, b, b, b, n, b⟩, ⟨⟨⟨⟨h4, hq⟩, ⟨h0, h6.1.lt⟩, ⟨h1, h6.2.1.lt⟩, ⟨h2, h6.2.2.1.lt⟩, ⟨h3, h6.2.2.2.lt⟩⟩, ⟨?_, ?_, ?_, ?_⟩, ⟨d1, d2, d3⟩, ⟨d4, d5⟩, d6⟩, Nat.le_refl _⟩, h5, row_made h6.1 hn2, row_made h6.2.1 hb2, row_made h6.2.2.1 hb2, row_made h6.2.2.2 hb2⟩
  · show q ≠ g0; omega
  · show q ≠ g1; omega
  · show q ≠ g2; omega
  · show q ≠ g3; omega
/-- what each operation leaves -/
def SpNK (B b n : Nat) (j : Nat) (a : Act) (w : World) : Prop := match j with
  | 2 => ∃ g, a.tmps.getD 12 undef = .slice (some ⟨g, 0, none⟩) n n ∧ Blk w g (mkC n) 3 ∧ B ≤ g
  | 5 => ∃ g, a.tmps.getD 15 undef = .slice (some ⟨g, 0, none⟩) b b ∧ Blk w g (mkC b) 3 ∧ B ≤ g
  | 8 => ∃ g, a.tmps.getD 18 undef = .slice (some ⟨g, 0, none⟩) b b ∧ Blk w g (mkC b) 3 ∧ B ≤ g
  | 11 => ∃ g, a.tmps.getD 21 undef = .slice (some ⟨g, 0, none⟩) b b ∧ Blk w g (mkC b) 3 ∧ B ≤ g
  | 12 => ∃ g0 g1 g2 g3, a.tmps.getD 22 undef = .agg (nwA b n g0 g1 g2 g3) ∧ D4 g0 g1 g2 g3 ∧ (B ≤ g0 ∧ B ≤ g1 ∧ B ≤ g2 ∧ B ≤ g3) ∧ Nw4 b n g0 g1 g2 g3 w
  | 13 => ∃ g0 g1 g2 g3, a.tmps.getD 23 undef = .agg (nwA b n g0 g1 g2 g3) ∧ D4 g0 g1 g2 g3 ∧ (B ≤ g0 ∧ B ≤ g1 ∧ B ≤ g2 ∧ B ≤ g3) ∧ Nw4 b n g0 g1 g2 g3 w
  | 14 => ∃ q, a.tmps.getD 24 undef = .pointer (some ⟨q, 0, none⟩) ∧ NkP B b n q w
  | _ => ∃ q, a.tmps.getD 2 undef = .pointer (some ⟨q, 0, none⟩) ∧ NkP B b n q w
def fNK (j : Nat) : List Tmp := if j = 2 then [12] else if j = 5 then [15] else if j = 8 then [18] else if j = 11 then [21] else if j = 12 then [22] else if j = 13 then [23] else if j = 14 then [24] else [2]
theorem SpNK.ext (B b n : Nat) : ∀ (j : Nat) (a a' : Act) (w w' : World), SpNK B b n j a w → (∀ d ∈ fNK j, a'.tmps.getD d undef = a.tmps.getD d undef) → Goes w w' → SpNK B b n j a' w' := by
  intro j a a' w w' h hd hT
  unfold SpNK at h ⊢
  split at h
  · obtain ⟨g, h1, h2, h3⟩ := h; exact ⟨g, (hd 12 (by simp [fNK])).trans h1, h2.after hT, h3⟩
  · obtain ⟨g, h1, h2, h3⟩ := h; exact ⟨g, (hd 15 (by simp [fNK])).trans h1, h2.after hT, h3⟩
  · obtain ⟨g, h1, h2, h3⟩ := h; exact ⟨g, (hd 18 (by simp [fNK])).trans h1, h2.after hT, h3⟩
  · obtain ⟨g, h1, h2, h3⟩ := h; exact ⟨g, (hd 21 (by simp [fNK])).trans h1, h2.after hT, h3⟩
  · obtain ⟨g0, g1, g2, g3, h1, h2, h3, h4⟩ := h; exact ⟨g0, g1, g2, g3, (hd 22 (by simp [fNK])).trans h1, h2, h3, h4.after hT⟩
  · obtain ⟨g0, g1, g2, g3, h1, h2, h3, h4⟩ := h; exact ⟨g0, g1, g2, g3, (hd 23 (by simp [fNK])).trans h1, h2, h3, h4.after hT⟩
  · obtain ⟨q, h1, h2⟩ := h; exact ⟨q, (hd 24 (by simp [fNK])).trans h1, h2.after hT⟩
  · rename_i n1 n2 n3 n4 n5 n6 n7
    obtain ⟨q, h1, h2⟩ := h
    refine ⟨q, (hd 2 ?_).trans h1, h2.after hT⟩
    unfold fNK
    rw [if_neg n1, if_neg n2, if_neg n3, if_neg n4, if_neg n5, if_neg n6, if_neg n7]
    exact List.mem_singleton.2 rfl

/-- what each operation of the region NK leaves -/
def vsNK (B b n : Nat) : List (Option (Tmp × Value)) :=
  [some (10, .pointer (some ⟨B, 3, none⟩)), some (11, .int .i64 (n : Int)), none, some (13, .pointer (some ⟨B, 0, none⟩)), some (14, .int .i64 (b : Int)), none, some (16, .pointer (some ⟨B, 0, none⟩)), some (17, .int .i64 (b : Int)), none, some (19, .pointer (some ⟨B, 0, none⟩)), some (20, .int .i64 (b : Int)), none, none, none, none, none, some (3, .int .i64 0)]
/-- the frame while the region NK runs -/
def BaseNK (B : Nat) (a : Act) : Prop := ∃ u : Nat → Value, a = ⟨#[u 0, .pointer (some ⟨B, 0, none⟩), u 2, u 3, u 4, u 5, u 6, u 7, u 8, u 9, u 10, u 11, u 12, u 13, u 14, u 15, u 16, u 17, u 18, u 19, u 20, u 21, u 22, u 23, u 24], []⟩
theorem BaseNK.of {B : Nat} (arr : Array Value) (h : arr = #[arr.getD 0 undef, .pointer (some ⟨B, 0, none⟩), arr.getD 2 undef, arr.getD 3 undef, arr.getD 4 undef, arr.getD 5 undef, arr.getD 6 undef, arr.getD 7 undef, arr.getD 8 undef, arr.getD 9 undef, arr.getD 10 undef, arr.getD 11 undef, arr.getD 12 undef, arr.getD 13 undef, arr.getD 14 undef, arr.getD 15 undef, arr.getD 16 undef, arr.getD 17 undef, arr.getD 18 undef, arr.getD 19 undef, arr.getD 20 undef, arr.getD 21 undef, arr.getD 22 undef, arr.getD 23 undef, arr.getD 24 undef]) : BaseNK B ⟨arr, []⟩ := ⟨fun i => arr.getD i undef, by rw [← h]⟩
theorem BaseNK.put10 {B : Nat} (a : Act) (v : Value) (h : BaseNK B a) : BaseNK B (a.put (some 10) v) := by
  obtain ⟨u, rfl⟩ := h
  exact ⟨fun i => if i = 10 then v else u i, by kernel_rfl⟩
theorem BaseNK.put11 {B : Nat} (a : Act) (v : Value) (h : BaseNK B a) : BaseNK B (a.put (some 11) v) := by
  obtain ⟨u, rfl⟩ := h
  exact ⟨fun i => if i = 11 then v else u i, by kernel_rfl⟩
theorem BaseNK.put12 {B : Nat} (a : Act) (v : Value) (h : BaseNK B a) : BaseNK B (a.put (some 12) v) := by
  obtain ⟨u, rfl⟩ := h
  exact ⟨fun i => if i = 12 then v else u i, by kernel_rfl⟩
theorem BaseNK.put13 {B : Nat} (a : Act) (v : Value) (h : BaseNK B a) : BaseNK B (a.put (some 13) v) := by
  obtain ⟨u, rfl⟩ := h
  exact ⟨fun i => if i = 13 then v else u i, by kernel_rfl⟩
theorem BaseNK.put14 {B : Nat} (a : Act) (v : Value) (h : BaseNK B a) : BaseNK B (a.put (some 14) v) := by
  obtain ⟨u, rfl⟩ := h
  exact ⟨fun i => if i = 14 then v else u i, by kernel_rfl⟩
theorem BaseNK.put15 {B : Nat} (a : Act) (v : Value) (h : BaseNK B a) : BaseNK B (a.put (some 15) v) := by
  obtain ⟨u, rfl⟩ := h
  exact ⟨fun i => if i = 15 then v else u i, by kernel_rfl⟩
theorem BaseNK.put16 {B : Nat} (a : Act) (v : Value) (h : BaseNK B a) : BaseNK B (a.put (some 16) v) := by
  obtain ⟨u, rfl⟩ := h
  exact ⟨fun i => if i = 16 then v else u i, by kernel_rfl⟩
theorem BaseNK.put17 {B : Nat} (a : Act) (v : Value) (h : BaseNK B a) : BaseNK B (a.put (some 17) v) := by
  obtain ⟨u, rfl⟩ := h
  exact ⟨fun i => if i = 17 then v else u i, by kernel_rfl⟩
theorem BaseNK.put18 {B : Nat} (a : Act) (v : Value) (h : BaseNK B a) : BaseNK B (a.put (some 18) v) := by
  obtain ⟨u, rfl⟩ := h
  exact ⟨fun i => if i = 18 then v else u i, by kernel_rfl⟩
theorem BaseNK.put19 {B : Nat} (a : Act) (v : Value) (h : BaseNK B a) : BaseNK B (a.put (some 19) v) := by
  obtain ⟨u, rfl⟩ := h
  exact ⟨fun i => if i = 19 then v else u i, by kernel_rfl⟩
theorem BaseNK.put20 {B : Nat} (a : Act) (v : Value) (h : BaseNK B a) : BaseNK B (a.put (some 20) v) := by
  obtain ⟨u, rfl⟩ := h
  exact ⟨fun i => if i = 20 then v else u i, by kernel_rfl⟩
theorem BaseNK.put21 {B : Nat} (a : Act) (v : Value) (h : BaseNK B a) : BaseNK B (a.put (some 21) v) := by
  obtain ⟨u, rfl⟩ := h
  exact ⟨fun i => if i = 21 then v else u i, by kernel_rfl⟩
theorem BaseNK.put22 {B : Nat} (a : Act) (v : Value) (h : BaseNK B a) : BaseNK B (a.put (some 22) v) := by
  obtain ⟨u, rfl⟩ := h
  exact ⟨fun i => if i = 22 then v else u i, by kernel_rfl⟩
theorem BaseNK.put23 {B : Nat} (a : Act) (v : Value) (h : BaseNK B a) : BaseNK B (a.put (some 23) v) := by
  obtain ⟨u, rfl⟩ := h
  exact ⟨fun i => if i = 23 then v else u i, by kernel_rfl⟩
theorem BaseNK.put24 {B : Nat} (a : Act) (v : Value) (h : BaseNK B a) : BaseNK B (a.put (some 24) v) := by
  obtain ⟨u, rfl⟩ := h
  exact ⟨fun i => if i = 24 then v else u i, by kernel_rfl⟩
theorem BaseNK.put2 {B : Nat} (a : Act) (v : Value) (h : BaseNK B a) : BaseNK B (a.put (some 2) v) := by
  obtain ⟨u, rfl⟩ := h
  exact ⟨fun i => if i = 2 then v else u i, by kernel_rfl⟩
theorem BaseNK.put3 {B : Nat} (a : Act) (v : Value) (h : BaseNK B a) : BaseNK B (a.put (some 3) v) := by
  obtain ⟨u, rfl⟩ := h
  exact ⟨fun i => if i = 3 then v else u i, by kernel_rfl⟩

/-- what New answers, of the code -/
def NewK (b l y n s r : Int) (w : World) (e : Ending) (w' : World) : Prop :=
  (OkG b l y n s r → ∃ o, e = .returned (.tuple #[.pointer (some ⟨o, 0, none⟩), .int .i64 0]) ∧ Kp w.heap.size w'.heap.size w' o (newX b.toNat n.toNat)) ∧ (¬ OkG b l y n s r → e = .returned (.tuple #[.pointer none, .int .i64 60])) ∧ Below w.heap.size w w'

set_option maxHeartbeats 4000000 in
theorem st_new (b l y n s r : Int) (w : World) : Calls Try.prog 8 #[.agg (gv b l y n s r)] w (NewK b l y n s r w) := by
  obtain ⟨w1, hw1⟩ : ∃ w1, w.alloc (.cells (gv b l y n s r) 23) = w1 := ⟨_, rfl⟩
  have HC1 : Hid (CK w b l y n s r w1) := by rw [← hw1]; exact CK.new w b l y n s r
  go_enter Try.func8, Try.ntmps8
  go_wp2_with (refine wpList_load_row rfl 23 (.tmp 1) rfl w.heap.size rfl 23 (gv b l y n s r) (0, 0) _ HC1.out.1 Try.underlying23 rfl size_geo ?_)
  clear hw1
  refine (ge_check b l y n s r w1).mono ?_
  rintro e w2 ⟨rfl, hb2⟩
  have HC2 := Lib.hid (HC1.out.after hb2)
  clear hb2 HC1
  by_cases hok : OkG b l y n s r
  · rw [chk_ok hok]
    have HNB : Hid (n ≤ 4096 ∧ 1 ≤ n ∧ 8 ≤ b ∧ b ≤ 64) := by
      obtain ⟨h1, _, _⟩ := hok
      unfold PreG at h1
      show n ≤ 4096 ∧ 1 ≤ n ∧ 8 ≤ b ∧ b ≤ 64
      omega
    have HT := Lib.hid hok
    clear hok
    have h5 := HNB.out
    obtain ⟨b, rfl⟩ : ∃ k : Nat, b = k := ⟨b.toNat, by omega⟩
    obtain ⟨n, rfl⟩ : ∃ k : Nat, n = k := ⟨n.toNat, by omega⟩
    have HNN : Hid (n ≤ 4096 ∧ b ≤ 64) := by show n ≤ 4096 ∧ b ≤ 64; omega
    clear h5 HNB
    go_upto_region 4 with fail
    rename_i K0 hK0
    refine wp_region_list3J (SV2S (vsNK w.heap.size b n) fNK) (BaseNK w.heap.size) (fun a w' => CK w b l y n s r w' ∧ J4 (a.tmps.getD 12 undef) (a.tmps.getD 15 undef) (a.tmps.getD 18 undef) (a.tmps.getD 21 undef) w') (Goes) (RV (vsNK w.heap.size b n) (SpNK w.heap.size b n)) rfl (by kernel_rfl) (RV.ext2S (f := fNK) (SpNK.ext w.heap.size b n)) ?_ (⟨HC2.out.drew, J4.nil _⟩) (BaseNK.of _ (by kernel_rfl)) ?_ ?_
    · exact ⟨BaseNK.put10, BaseNK.put11, BaseNK.put12, BaseNK.put13, BaseNK.put14, BaseNK.put15, BaseNK.put16, BaseNK.put17, BaseNK.put18, BaseNK.put19, BaseNK.put20, BaseNK.put21, BaseNK.put22, BaseNK.put23, BaseNK.put24, BaseNK.put2, BaseNK.put3, trivial⟩
    · refine ⟨?_, ?_, ?_, ?_, ?_, ?_, ?_, ?_, ?_, ?_, ?_, ?_, ?_, ?_, ?_, ?_, ?_, trivial⟩
      all_goals
        intro a w' hC hB hR
        obtain ⟨u, rfl⟩ := hB
        have HC := Lib.hid hC
        clear hC
        clear hK0
      · clear hR
        refine if_yes (by kernel_rfl) ?_
        unfold Oper.wp
        go_simp
        exact ⟨.pointer (some ⟨w.heap.size, 3, none⟩), rfl, HC.out, Goes.refl _, rfl⟩
      · have h10 : u 10 = .pointer (some ⟨w.heap.size, 3, none⟩) := hR ⟨0, .data⟩ (by simp) rfl
        have hc : w'.cell? ⟨w.heap.size, 3, none⟩ = some (.int .i64 (n : Int)) := HC.out.1.1.cell 3
        clear hR
        simp only [h10]
        clear h10
        refine if_yes (by kernel_rfl) ?_
        unfold Oper.wp
        go_simp
        exact ⟨.int .i64 (n : Int), rfl, HC.out, Goes.refl _, rfl⟩
      · have h11 : u 11 = .int .i64 (n : Int) := hR ⟨1, .data⟩ (by simp) rfl
        clear hR
        simp only [h11]
        clear h11
        refine if_yes (by kernel_rfl) ?_
        have hmk := makeN w' n (by have := HNN.out; omega)
        unfold Oper.wp
        go_simp
        exact ⟨.slice (some ⟨w'.heap.size, 0, none⟩) n n, rfl, ⟨HC.out.1.alloc _, HC.out.2.new0 _ _ (Nat.le_refl _) (by simp) (by simp)⟩, goes_alloc _ _, ⟨w'.heap.size, rfl, Blk.new _ _ _, HC.out.1.2.size⟩⟩
      · clear hR
        refine if_yes (by kernel_rfl) ?_
        unfold Oper.wp
        go_simp
        exact ⟨.pointer (some ⟨w.heap.size, 0, none⟩), rfl, HC.out, Goes.refl _, rfl⟩
      · have h13 : u 13 = .pointer (some ⟨w.heap.size, 0, none⟩) := hR ⟨3, .data⟩ (by simp) rfl
        have hc : w'.cell? ⟨w.heap.size, 0, none⟩ = some (.int .i64 (b : Int)) := HC.out.1.1.cell 0
        clear hR
        simp only [h13]
        clear h13
        refine if_yes (by kernel_rfl) ?_
        unfold Oper.wp
        go_simp
        exact ⟨.int .i64 (b : Int), rfl, HC.out, Goes.refl _, rfl⟩
      · have h14 : u 14 = .int .i64 (b : Int) := hR ⟨4, .data⟩ (by simp) rfl
        clear hR
        simp only [h14]
        clear h14
        refine if_yes (by kernel_rfl) ?_
        have hmk := makeN w' b (by have := HNN.out; omega)
        unfold Oper.wp
        go_simp
        exact ⟨.slice (some ⟨w'.heap.size, 0, none⟩) b b, rfl, ⟨HC.out.1.alloc _, HC.out.2.new1 _ _ (Nat.le_refl _) (by simp) (by simp)⟩, goes_alloc _ _, ⟨w'.heap.size, rfl, Blk.new _ _ _, HC.out.1.2.size⟩⟩
      · clear hR
        refine if_yes (by kernel_rfl) ?_
        unfold Oper.wp
        go_simp
        exact ⟨.pointer (some ⟨w.heap.size, 0, none⟩), rfl, HC.out, Goes.refl _, rfl⟩
      · have h16 : u 16 = .pointer (some ⟨w.heap.size, 0, none⟩) := hR ⟨6, .data⟩ (by simp) rfl
        have hc : w'.cell? ⟨w.heap.size, 0, none⟩ = some (.int .i64 (b : Int)) := HC.out.1.1.cell 0
        clear hR
        simp only [h16]
        clear h16
        refine if_yes (by kernel_rfl) ?_
        unfold Oper.wp
        go_simp
        exact ⟨.int .i64 (b : Int), rfl, HC.out, Goes.refl _, rfl⟩
      · have h17 : u 17 = .int .i64 (b : Int) := hR ⟨7, .data⟩ (by simp) rfl
        clear hR
        simp only [h17]
        clear h17
        refine if_yes (by kernel_rfl) ?_
        have hmk := makeN w' b (by have := HNN.out; omega)
        unfold Oper.wp
        go_simp
        exact ⟨.slice (some ⟨w'.heap.size, 0, none⟩) b b, rfl, ⟨HC.out.1.alloc _, HC.out.2.new2 _ _ (Nat.le_refl _) (by simp) (by simp)⟩, goes_alloc _ _, ⟨w'.heap.size, rfl, Blk.new _ _ _, HC.out.1.2.size⟩⟩
      · clear hR
        refine if_yes (by kernel_rfl) ?_
        unfold Oper.wp
        go_simp
        exact ⟨.pointer (some ⟨w.heap.size, 0, none⟩), rfl, HC.out, Goes.refl _, rfl⟩
      · have h19 : u 19 = .pointer (some ⟨w.heap.size, 0, none⟩) := hR ⟨9, .data⟩ (by simp) rfl
        have hc : w'.cell? ⟨w.heap.size, 0, none⟩ = some (.int .i64 (b : Int)) := HC.out.1.1.cell 0
        clear hR
        simp only [h19]
        clear h19
        refine if_yes (by kernel_rfl) ?_
        unfold Oper.wp
        go_simp
        exact ⟨.int .i64 (b : Int), rfl, HC.out, Goes.refl _, rfl⟩
      · have h20 : u 20 = .int .i64 (b : Int) := hR ⟨10, .data⟩ (by simp) rfl
        clear hR
        simp only [h20]
        clear h20
        refine if_yes (by kernel_rfl) ?_
        have hmk := makeN w' b (by have := HNN.out; omega)
        unfold Oper.wp
        go_simp
        exact ⟨.slice (some ⟨w'.heap.size, 0, none⟩) b b, rfl, ⟨HC.out.1.alloc _, HC.out.2.new3 _ _ (Nat.le_refl _) (by simp) (by simp)⟩, goes_alloc _ _, ⟨w'.heap.size, rfl, Blk.new _ _ _, HC.out.1.2.size⟩⟩
      · obtain ⟨g0, h0, k0⟩ := hR ⟨2, .data⟩ (by simp) rfl
        obtain ⟨g1, h1, k1⟩ := hR ⟨5, .data⟩ (by simp) rfl
        obtain ⟨g2, h2, k2⟩ := hR ⟨8, .data⟩ (by simp) rfl
        obtain ⟨g3, h3, k3⟩ := hR ⟨11, .data⟩ (by simp) rfl
        have h0 : u 12 = .slice (some ⟨g0, 0, none⟩) n n := h0
        have h1 : u 15 = .slice (some ⟨g1, 0, none⟩) b b := h1
        have h2 : u 18 = .slice (some ⟨g2, 0, none⟩) b b := h2
        have h3 : u 21 = .slice (some ⟨g3, 0, none⟩) b b := h3
        have hj : J4 (u 12) (u 15) (u 18) (u 21) w' := HC.out.2
        rw [h0, h1, h2, h3] at hj
        have hd := hj.apart
        have HJ := Lib.hid hj
        clear hj
        clear hR
        refine if_yes (by kernel_rfl) ?_
        simp only [h0, h1, h2, h3]
        unfold Oper.wp
        go_simp
        exact ⟨.agg (nwA b n g0 g1 g2 g3), rfl, ⟨HC.out.1, HJ.out⟩, Goes.refl _, ⟨g0, g1, g2, g3, rfl, hd, ⟨k0.2, k1.2, k2.2, k3.2⟩, k0.1, k1.1, k2.1, k3.1⟩⟩
      · obtain ⟨g0, g1, g2, g3, h22, hk⟩ := hR ⟨12, .data⟩ (by simp) rfl
        have h22 : u 22 = .agg (nwA b n g0 g1 g2 g3) := h22
        clear hR
        refine if_yes (by kernel_rfl) ?_
        simp only [h22]
        unfold Oper.wp
        unfold nwA
        go_simp
        exact ⟨.agg (nwA b n g0 g1 g2 g3), rfl, ⟨HC.out.1, HC.out.2⟩, Goes.refl _, ⟨g0, g1, g2, g3, rfl, hk⟩⟩
      · obtain ⟨g0, g1, g2, g3, h23, hk⟩ := hR ⟨13, .data⟩ (by simp) rfl
        have h23 : u 23 = .agg (nwA b n g0 g1 g2 g3) := h23
        clear hR
        refine if_yes (by kernel_rfl) ?_
        simp only [h23]
        unfold Oper.wp
        unfold nwA
        go_simp
        exact ⟨.pointer (some ⟨w'.heap.size, 0, none⟩), rfl, ⟨HC.out.1.alloc _, HC.out.2.grow (by simp)⟩, goes_alloc _ _, ⟨w'.heap.size, rfl, g0, g1, g2, g3, hk.1, hk.2.1, HC.out.1.2.size, hk.2.2.lts, Blk.new _ _ _, hk.2.2.alloc _⟩⟩
      · obtain ⟨q, h24, hk⟩ := hR ⟨14, .data⟩ (by simp) rfl
        have h24 : u 24 = .pointer (some ⟨q, 0, none⟩) := h24
        clear hR
        refine if_yes (by kernel_rfl) ?_
        simp only [h24]
        unfold Oper.wp
        go_simp
        exact ⟨.pointer (some ⟨q, 0, none⟩), rfl, ⟨HC.out.1, HC.out.2⟩, Goes.refl _, ⟨q, rfl, hk⟩⟩
      · clear hR
        refine if_yes (by kernel_rfl) ?_
        unfold Oper.wp
        go_simp
        exact ⟨.int .i64 0, rfl, HC.out, Goes.refl _, rfl⟩
    · intro aa w5 hC hB hR
      obtain ⟨q, h2, hk⟩ := hR 15 (by decide)
      have h3 : aa.tmps.getD 3 undef = .int .i64 0 := hR 16 (by decide)
      clear hR
      have HBW : Hid (Below w.heap.size w w5) := hC.1.2
      obtain ⟨u, rfl⟩ := hB
      have h2 : u 2 = .pointer (some ⟨q, 0, none⟩) := h2
      have h3 : u 3 = .int .i64 0 := h3
      simp only [h2, h3]
      have HK : Hid (Kp w.heap.size w5.heap.size w5 q (newX b n)) := hk.kp HNN.out.2 HNN.out.1
      clear h2 h3 hk hC
      go_wp2_with fail
      go_ret2
      exact ⟨fun _ => ⟨q, rfl, HK.out⟩, fun h => absurd HT.out h, HBW.out⟩
  · rw [chk_no hok]
    have HT := Lib.hid hok
    clear hok
    go_wp2_with fail
    go_ret2
    exact ⟨fun h => absurd h HT.out, fun _ => rfl, HC2.out.2⟩

end Go.Proofs.Ytgnjknboahcmgaa
