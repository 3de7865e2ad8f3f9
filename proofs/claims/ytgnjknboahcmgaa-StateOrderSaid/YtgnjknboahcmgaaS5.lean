/- Texts of one claim, merged: StR3, StR4, Inv7. -/
import Derived.Test.YtgnjknboahcmgaaS4
import Derived.Test.YtgnjknboahcmgaaS1
import Derived.Deep.MidRow
import Derived.Test.YtgnjknboahcmgaaS3

/- The reference of layer 14, walked: All. -/
namespace Go.Proofs.Ytgnjknboahcmgaa
set_option maxRecDepth 100000
open Go.RowKit

variable {U0 U1 : Nat}

/-- none of these is a number -/
def AllSl (cs : Array Value) : Prop := ∀ (j : Nat) (n : Int), cs[j]? ≠ some (.int .i64 n)
theorem allSl_nil4 : AllSl nil4 := fun j n h => by
  match j, h with
  | 0, h => cases h
  | 1, h => cases h
  | 2, h => cases h
  | 3, h => cases h
  | j + 4, h => simp [nil4] at h
theorem snAt_all {w : World} {A : Array Value} {x : Sn} (h : SnG U0 U1 w A x) : AllSl A := by
  obtain ⟨_, _, _, _, rfl, ⟨_, _, rfl, _⟩, ⟨_, _, rfl, _⟩, ⟨_, _, rfl, _⟩, ⟨_, _, rfl, _⟩⟩ := h
  intro j n h
  match j, h with
  | 0, h => cases h
  | 1, h => cases h
  | 2, h => cases h
  | 3, h => cases h
  | j + 4, h => simp at h
theorem snAt_sizeT {w : World} {A : Array Value} {x : Sn} (h : SnG U0 U1 w A x) : (Try.prog.info? 32).map (·.size) = some A.size := by obtain ⟨_, _, _, _, rfl, _⟩ := h; exact size_state
theorem snAt_oneT {w : World} {A : Array Value} {x : Sn} (h : SnG U0 U1 w A x) : A.all (·.oneCell') = true := by
  obtain ⟨_, _, _, _, rfl, ⟨_, _, rfl, _⟩, ⟨_, _, rfl, _⟩, ⟨_, _, rfl, _⟩, ⟨_, _, rfl, _⟩⟩ := h
  simp [Value.oneCell']
theorem snAt_four4 {w : World} {A : Array Value} {x : Sn} (h : SnG U0 U1 w A x) : 4 = A.size := by obtain ⟨_, _, _, _, rfl, _⟩ := h; rfl
/-- a store into a block without numbers leaves what is durable as it reads -/
theorem iv_put {w : World} {q : Nat} {cs : Array Value} {t : TypeId} (hq : Blk w q cs t) (hall : AllSl cs) (ds : Array Value) {v : Value} {l : List Int} (h : IvG U0 U1 w v l) : IvG U0 U1 (w.setRow q ds) v l := by
  obtain ⟨oa, cap, h1, h2, h3⟩ := h
  refine ⟨oa, cap, h1, h2, fun hne => ?_⟩
  obtain ⟨b, off, e, ho, hlt, hc⟩ := h3 hne
  have h0 : 0 < l.length := List.length_pos_iff.2 hne
  have hbq : b ≠ q := fun hb => by
    subst hb
    have h4 := hc 0 h0
    rw [hq.cell] at h4
    exact hall _ _ h4
  refine ⟨b, off, e, ho, by rw [size_setRow]; exact hlt, fun i hi => ?_⟩
  rw [World.cell?_of_block (w := w) ?_]
  · exact hc i hi
  · simp only [World.setRow, Array.getElem?_modify]
    rw [if_neg (Ne.symm hbq)]
theorem sn_put_row {w : World} {q : Nat} {cs : Array Value} {t : TypeId} (hq : Blk w q cs t) (hall : AllSl cs) (ds : Array Value) {A : Array Value} {x : Sn} (h : SnG U0 U1 w A x) : SnG U0 U1 (w.setRow q ds) A x := by
  obtain ⟨vf, vc, vs, vt, e, h1, h2, h3, h4⟩ := h
  exact ⟨vf, vc, vs, vt, e, iv_put hq hall ds h1, iv_put hq hall ds h2, iv_put hq hall ds h3, iv_put hq hall ds h4⟩
/-- block q, a new one, holds it -/
def StP (U0 U1 : Nat) (wr : World) (y : Sn) (q : Nat) (w : World) : Prop := wr.heap.size ≤ q ∧ Below wr.heap.size wr w ∧ ∃ A, Blk w q A 32 ∧ SnG U0 U1 w A y
def TS (U0 U1 : Nat) (wr : World) (y : Sn) (w w' : World) : Prop :=
  (∀ A x, SnG U0 U1 w A x → SnG U0 U1 w' A x) ∧ (∀ q cs, AllSl cs → cs.size = 4 → Blk w q cs 32 → ∃ cs' : Array Value, AllSl cs' ∧ cs'.size = 4 ∧ Blk w' q cs' 32) ∧ ∀ q, StP U0 U1 wr y q w → StP U0 U1 wr y q w'
theorem TS.refl (wr : World) (y : Sn) (w : World) : TS U0 U1 wr y w w := ⟨fun _ _ h => h, fun _ cs h1 h2 h3 => ⟨cs, h1, h2, h3⟩, fun _ h => h⟩
theorem TS.call {wr w w' : World} {y : Sn} (hC : Below wr.heap.size wr w) (hb : Below w.heap.size w w') : TS U0 U1 wr y w w' :=
  ⟨fun _ _ h => h.below hb, fun _ cs h1 h2 h3 => ⟨cs, h1, h2, h3.after hb⟩, fun _ ⟨h1, h2, A, h3, h4⟩ => ⟨h1, h2.trans (hb.mono hC.size), A, h3.after hb, h4.below hb⟩⟩
theorem StP.mk {wr w : World} {y : Sn} {q : Nat} {cs A : Array Value} (hC : Below wr.heap.size wr w) (hq : wr.heap.size ≤ q) (hqk : Blk w q cs 32) (hall : AllSl cs) (hs : SnG U0 U1 w A y) : StP U0 U1 wr y q (w.setRow q A) :=
  ⟨hq, below_put hq _ hC, A, hqk.put _, sn_put_row hqk hall _ hs⟩
theorem TS.store {wr w : World} {y : Sn} {q : Nat} {cs A : Array Value} (hC : Below wr.heap.size wr w) (hq : wr.heap.size ≤ q) (hqk : Blk w q cs 32) (hall : AllSl cs) (hs : SnG U0 U1 w A y) : TS U0 U1 wr y w (w.setRow q A) := by
  refine ⟨fun _ _ h => sn_put_row hqk hall _ h, fun g ds h1 h2 h3 => ?_, fun g ⟨h1, h2, D, h3, h4⟩ => ?_⟩
  · by_cases e : q = g
    · subst e; exact ⟨A, snAt_all hs, (snAt_four4 hs).symm, h3.put _⟩
    · exact ⟨ds, h1, h2, h3.put_other e _⟩
  · by_cases e : q = g
    · subst e; exact StP.mk hC hq hqk hall hs
    · exact ⟨h1, below_put hq _ h2, D, h3.put_other e _, sn_put_row hqk hall _ h4⟩
def SpAL (U0 U1 : Nat) (wr : World) (y : Sn) (ec : Int) (j : Nat) (a : Act) (w : World) : Prop := match j with
  | 5 => ∃ A, a.tmps.getD 21 undef = .tuple #[.agg A, .int .i64 ec] ∧ SnG U0 U1 w A y
  | 6 => ∃ A, a.tmps.getD 15 undef = .tuple #[.agg A, .int .i64 ec] ∧ SnG U0 U1 w A y
  | 7 => ∃ A, a.tmps.getD 22 undef = .agg A ∧ SnG U0 U1 w A y
  | 9 => ∃ q cs, a.tmps.getD 7 undef = .pointer (some ⟨q, 0, none⟩) ∧ wr.heap.size ≤ q ∧ Blk w q cs 32 ∧ cs.size = 4 ∧ AllSl cs
  | 10 => ∃ q, a.tmps.getD 7 undef = .pointer (some ⟨q, 0, none⟩) ∧ StP U0 U1 wr y q w
  | _ => True
theorem SpAL.ext (wr : World) (y : Sn) (ec : Int) : ∀ (j : Nat) (a a' : Act) (w w' : World), SpAL U0 U1 wr y ec j a w → (∀ d ∈ (if j = 5 then [21] else if j = 6 then [15] else if j = 7 then [22] else [7]), a'.tmps.getD d undef = a.tmps.getD d undef) → TS U0 U1 wr y w w' → SpAL U0 U1 wr y ec j a' w' := by
  intro j a a' w w' h hd hT
  unfold SpAL at *
  split at h
  · obtain ⟨A, h1, h2⟩ := h; exact ⟨A, (hd 21 (by simp)).trans h1, hT.1 _ _ h2⟩
  · obtain ⟨A, h1, h2⟩ := h; exact ⟨A, (hd 15 (by simp)).trans h1, hT.1 _ _ h2⟩
  · obtain ⟨A, h1, h2⟩ := h; exact ⟨A, (hd 22 (by simp)).trans h1, hT.1 _ _ h2⟩
  · obtain ⟨q, cs, h1, h2, h3, h4, h5⟩ := h
    obtain ⟨cs', h6, h7, h8⟩ := hT.2.1 q cs h5 h4 h3
    exact ⟨q, cs', (hd 7 (by simp)).trans h1, h2, h8, h7, h6⟩
  · obtain ⟨q, h1, h2⟩ := h; exact ⟨q, (hd 7 (by simp)).trans h1, hT.2.2 _ h2⟩
  · trivial
/-- the slots that a fact looks at, those of a fact of one's own by the operation's number -/
def SV2S (vs : List (Option (Tmp × Value))) (f : Nat → List Tmp) : List (List Tmp) := vs.mapIdx fun j o => match o with
  | some (d, _) => [d]
  | none => f j
theorem RV.ext2S {vs : List (Option (Tmp × Value))} {f : Nat → List Tmp} {Sp : Nat → Act → World → Prop} {T : World → World → Prop}
    (hsp : ∀ j a a' w w', Sp j a w → (∀ d ∈ f j, a'.tmps.getD d undef = a.tmps.getD d undef) → T w w' → Sp j a' w') :
    ∀ j a a' w w', RV vs Sp j a w → (∀ s ∈ (SV2S vs f).getD j [], a'.tmps.getD s undef = a.tmps.getD s undef) → T w w' → RV vs Sp j a' w' := by
  intro j a a' w w' h hd hT
  unfold RV at *
  rw [List.getD_eq_getElem?_getD] at hd
  cases hj : vs[j]? with
  | none => trivial
  | some o =>
    rw [hj] at h
    cases o with
    | none => exact hsp j a a' w w' h (fun d hm => hd d (by simp [SV2S, hj]; exact hm)) hT
    | some p => exact (hd p.1 (by simp [SV2S, hj])).trans h

/-- what each operation of the region AL leaves -/
def vsAL (_ g o L cap i : Nat) (A : Array Value) (k a b ec : Int) : List (Option (Tmp × Value)) :=
  [some (16, .agg A), some (17, .slice (some ⟨g, o, none⟩) L cap), some (18, .int .i64 (i : Int)), some (19, .pointer (some ⟨g, o + i * 3, none⟩)), some (20, .agg (ra k a b)), none, none, none, some (23, .int .i64 ec), none, none, some (8, .int .i64 ec)]
/-- the frame while the region AL runs -/
def BaseAL (B g o L cap i : Nat) (Z : Value) (a : Act) : Prop := ∃ u : Nat → Value, a = ⟨#[Z, .slice (some ⟨g, o, none⟩) L cap, .pointer (some ⟨B, 0, none⟩), undef, .pointer (some ⟨B + 1, 0, none⟩), u 5, .int .i64 (i : Int), u 7, u 8, u 9, u 10, u 11, u 12, u 13, u 14, u 15, u 16, u 17, u 18, u 19, u 20, u 21, u 22, u 23, u 24, u 25, u 26, u 27, u 28, undef], []⟩
theorem BaseAL.of {B g o L cap i : Nat} {Z : Value} (arr : Array Value) (h : arr = #[Z, .slice (some ⟨g, o, none⟩) L cap, .pointer (some ⟨B, 0, none⟩), undef, .pointer (some ⟨B + 1, 0, none⟩), arr.getD 5 undef, .int .i64 (i : Int), arr.getD 7 undef, arr.getD 8 undef, arr.getD 9 undef, arr.getD 10 undef, arr.getD 11 undef, arr.getD 12 undef, arr.getD 13 undef, arr.getD 14 undef, arr.getD 15 undef, arr.getD 16 undef, arr.getD 17 undef, arr.getD 18 undef, arr.getD 19 undef, arr.getD 20 undef, arr.getD 21 undef, arr.getD 22 undef, arr.getD 23 undef, arr.getD 24 undef, arr.getD 25 undef, arr.getD 26 undef, arr.getD 27 undef, arr.getD 28 undef, undef]) : BaseAL B g o L cap i Z ⟨arr, []⟩ := ⟨fun i => arr.getD i undef, by rw [← h]⟩
theorem BaseAL.put16 {B g o L cap i : Nat} {Z : Value} (a : Act) (v : Value) (h : BaseAL B g o L cap i Z a) : BaseAL B g o L cap i Z (a.put (some 16) v) := by
  obtain ⟨u, rfl⟩ := h
  exact ⟨fun i => if i = 16 then v else u i, by kernel_rfl⟩
theorem BaseAL.put17 {B g o L cap i : Nat} {Z : Value} (a : Act) (v : Value) (h : BaseAL B g o L cap i Z a) : BaseAL B g o L cap i Z (a.put (some 17) v) := by
  obtain ⟨u, rfl⟩ := h
  exact ⟨fun i => if i = 17 then v else u i, by kernel_rfl⟩
theorem BaseAL.put18 {B g o L cap i : Nat} {Z : Value} (a : Act) (v : Value) (h : BaseAL B g o L cap i Z a) : BaseAL B g o L cap i Z (a.put (some 18) v) := by
  obtain ⟨u, rfl⟩ := h
  exact ⟨fun i => if i = 18 then v else u i, by kernel_rfl⟩
theorem BaseAL.put19 {B g o L cap i : Nat} {Z : Value} (a : Act) (v : Value) (h : BaseAL B g o L cap i Z a) : BaseAL B g o L cap i Z (a.put (some 19) v) := by
  obtain ⟨u, rfl⟩ := h
  exact ⟨fun i => if i = 19 then v else u i, by kernel_rfl⟩
theorem BaseAL.put20 {B g o L cap i : Nat} {Z : Value} (a : Act) (v : Value) (h : BaseAL B g o L cap i Z a) : BaseAL B g o L cap i Z (a.put (some 20) v) := by
  obtain ⟨u, rfl⟩ := h
  exact ⟨fun i => if i = 20 then v else u i, by kernel_rfl⟩
theorem BaseAL.put21 {B g o L cap i : Nat} {Z : Value} (a : Act) (v : Value) (h : BaseAL B g o L cap i Z a) : BaseAL B g o L cap i Z (a.put (some 21) v) := by
  obtain ⟨u, rfl⟩ := h
  exact ⟨fun i => if i = 21 then v else u i, by kernel_rfl⟩
theorem BaseAL.put15 {B g o L cap i : Nat} {Z : Value} (a : Act) (v : Value) (h : BaseAL B g o L cap i Z a) : BaseAL B g o L cap i Z (a.put (some 15) v) := by
  obtain ⟨u, rfl⟩ := h
  exact ⟨fun i => if i = 15 then v else u i, by kernel_rfl⟩
theorem BaseAL.put22 {B g o L cap i : Nat} {Z : Value} (a : Act) (v : Value) (h : BaseAL B g o L cap i Z a) : BaseAL B g o L cap i Z (a.put (some 22) v) := by
  obtain ⟨u, rfl⟩ := h
  exact ⟨fun i => if i = 22 then v else u i, by kernel_rfl⟩
theorem BaseAL.put23 {B g o L cap i : Nat} {Z : Value} (a : Act) (v : Value) (h : BaseAL B g o L cap i Z a) : BaseAL B g o L cap i Z (a.put (some 23) v) := by
  obtain ⟨u, rfl⟩ := h
  exact ⟨fun i => if i = 23 then v else u i, by kernel_rfl⟩
theorem BaseAL.put7 {B g o L cap i : Nat} {Z : Value} (a : Act) (v : Value) (h : BaseAL B g o L cap i Z a) : BaseAL B g o L cap i Z (a.put (some 7) v) := by
  obtain ⟨u, rfl⟩ := h
  exact ⟨fun i => if i = 7 then v else u i, by kernel_rfl⟩
theorem BaseAL.put8 {B g o L cap i : Nat} {Z : Value} (a : Act) (v : Value) (h : BaseAL B g o L cap i Z a) : BaseAL B g o L cap i Z (a.put (some 8) v) := by
  obtain ⟨u, rfl⟩ := h
  exact ⟨fun i => if i = 8 then v else u i, by kernel_rfl⟩

/-- what All answers -/
def AllT (U0 U1 : Nat) (x : Sn) (l : List Rc) (w : World) (e : Ending) (w' : World) : Prop := (∃ A, e = .returned (.tuple #[.agg A, .int .i64 (allE x l)]) ∧ SnG U0 U1 w' A (allX x l)) ∧ Below w.heap.size w w'

theorem allE_step (x : Sn) (l : List Rc) (i : Nat) (hi : i < l.length) : allE x (l.drop i) = (if HasR x l[i] then allE (chgX x l[i]) (l.drop (i + 1)) else 110) ∧ allX x (l.drop i) = (if HasR x l[i] then allX (chgX x l[i]) (l.drop (i + 1)) else x) := by
  rw [List.drop_eq_getElem_cons hi]
  exact ⟨rfl, rfl⟩
/-- the boxes of All -/
def AlW (w0 : World) (A : Array Value) (w : World) : Prop := (Blk w w0.heap.size A 32 ∧ Blk w (w0.heap.size + 1) nil4 32 ∧ w0.heap.size + 2 ≤ w.heap.size) ∧ Below w0.heap.size w0 w
theorem AlW.call {w0 w w' : World} {A : Array Value} (h : AlW w0 A w) (hb : Below w.heap.size w w') : AlW w0 A w' :=
  ⟨⟨h.1.1.after hb, h.1.2.1.after hb, Nat.le_trans h.1.2.2 hb.size⟩, h.2.trans (hb.mono h.2.size)⟩
theorem AlW.new (w0 : World) (A : Array Value) : AlW w0 A ((w0.alloc (.cells A 32)).alloc (.cells nil4 32)) := by
  have b1 : Blk ((w0.alloc (.cells A 32)).alloc (.cells nil4 32)) (w0.heap.size + 1) nil4 32 := by
    have h := Blk.new (w0.alloc (.cells A 32)) nil4 32
    rwa [World.size_alloc] at h
  exact ⟨⟨(Blk.new _ _ _).alloc _, b1, by simp⟩, ((Below.refl _ _).alloc (Nat.le_refl _) _).alloc (by simp) _⟩
theorem al_end {w0 w : World} {A : Array Value} {x y : Sn} {l : List Rc} {c : Int} (h : AlW w0 A w) (hs : SnG U0 U1 w A y) (hg : allE x l = c ∧ allX x l = y) :
    AllT U0 U1 x l w0 (.returned (.tuple #[.agg A, .int .i64 c])) (w.setRow (w0.heap.size + 1) A) := by
  rw [← hg.1]
  refine ⟨⟨A, rfl, ?_⟩, below_put (by omega) _ h.2⟩
  rw [hg.2]
  exact sn_put_row h.1.2.1 allSl_nil4 _ hs

set_option maxHeartbeats 4000000 in
theorem rst_all (w : World) (A : Array Value) (x : Sn) (oa : Option Addr) (cap : Nat) (l : List Rc) (hU : U1 ≤ w.heap.size) (hA : SnG U0 U1 w A x) (hB : CntB x) (hz : x.f.length ≤ 1000000 ∧ x.c.length ≤ 1000000 ∧ x.s.length ≤ 1000000 ∧ x.t.length ≤ 1000000) (hl : l.length ≤ 1000000) (hr : XsAt w oa l) :
    Calls Try.prog 15 #[.agg A, .slice oa l.length cap] w (AllT U0 U1 x l w) := by
  obtain ⟨w2, hw2⟩ : ∃ w2, (w.alloc (.cells A 32)).alloc (.cells #[.slice none 0 0, .slice none 0 0, .slice none 0 0, .slice none 0 0] 32) = w2 := ⟨_, rfl⟩
  have HW2 : Hid (AlW w A w2) := by rw [← hw2]; exact AlW.new _ _
  have HS2 : Hid (SnG U0 U1 w2 A x) := hA.below HW2.out.2
  obtain ⟨L, hL⟩ : ∃ L, l.length = L := ⟨_, rfl⟩
  have HU1 := Lib.hid hU
  clear hU
  have HLN := Lib.hid hL
  have HR := Lib.hid hr
  have HZ := Lib.hid hz
  have HCB := Lib.hid hB
  rw [hL] at hl ⊢
  clear hA hB hz hr hL
  go_enter Try.func15, Try.ntmps15
  go_wp2_with fail
  clear hw2
  go_loopw [6] (fun iv wr => ∃ (i : Nat) (z : Sn) (D : Array Value), i ≤ L ∧ iv = .int .i64 i ∧ Hid (AlW w D wr) ∧ Hid (SnG U0 U1 wr D z) ∧ Hid (CntB z ∧ LenE z x) ∧ Hid (allE x l = allE z (l.drop i) ∧ allX x l = allX z (l.drop i))) (fun iv _ => L + 1 - (intOf iv).toNat)
  case atStart => exact ⟨0, x, A, Nat.zero_le _, rfl, HW2.out, HS2.out, ⟨HCB.out, rfl, rfl, rfl, rfl⟩, rfl, rfl⟩
  case round =>
    obtain ⟨i, z, D, hi, rfl, HAL, HSN, HCZ, HEQ⟩ := hrel
    by_cases hlt : i < L
    · have hltz : (i : Int) < (L : Int) := by omega
      have hil : i < l.length := by have := HLN.out; omega
      obtain ⟨g, o, rfl, hg, hrow⟩ := HR.out (by intro h0; rw [h0] at hil; exact absurd hil (Nat.not_lt_zero _))
      have r1 := hrow i hil
      have hst := allE_step z l i hil
      obtain ⟨⟨k, a, b⟩, hrc⟩ : ∃ r, l[i] = r := ⟨_, rfl⟩
      rw [hrc] at r1 hst
      have HST := Lib.hid hst
      have HRC : Hid (∀ w', Below wr.heap.size wr w' → w'.rangeAt g (o + i * 3) (ra k a b).toList) := fun w' hb j v hj => by
        have hb2 := HAL.out.2.trans (hb.mono HAL.out.2.size)
        rw [World.cell?_of_block (w := w) (hb2.block g hg)]
        exact r1 j v hj
      obtain ⟨ec, hec⟩ : ∃ ec, appE z ⟨k, a, b⟩ = ec := ⟨_, rfl⟩
      obtain ⟨y, hy⟩ : ∃ y, appX z ⟨k, a, b⟩ = y := ⟨_, rfl⟩
      have HLZ : Hid (z.f.length ≤ 1000000 ∧ z.c.length ≤ 1000000 ∧ z.s.length ≤ 1000000 ∧ z.t.length ≤ 1000000) := by
        obtain ⟨h1, h2, h3, h4⟩ := HCZ.out.2
        have := HZ.out
        show _ ∧ _ ∧ _ ∧ _
        omega
      have HAP : Hid (∀ w', Below wr.heap.size wr w' → Calls Try.prog 10 #[.agg D, .agg (ra k a b)] w' fun e w2 => (∃ A2, e = .returned (.tuple #[.agg A2, .int .i64 ec]) ∧ SnG U0 U1 w2 A2 y) ∧ Below w'.heap.size w' w2) := fun w' hb => by
        have h := rst_apply w' D z k a b (Nat.le_trans HU1.out (Nat.le_trans HAL.out.2.size hb.size)) (HSN.out.below hb) HCZ.out.1 HLZ.out
        unfold AppT at h
        rw [hec, hy] at h
        exact h
      have HAB : Hid (∀ w', Below wr.heap.size wr w' → Blk w' w.heap.size D 32) := fun w' hb => HAL.out.1.1.after hb
      have HSA : Hid ((Try.prog.info? 32).map (·.size) = some D.size) := snAt_sizeT HSN.out
      have HIN : Hid ((i : Int) < (L : Int) ∧ (0 : Int) ≤ (i : Int)) := ⟨hltz, by omega⟩
      have HEC := Lib.hid hec
      have HY := Lib.hid hy
      clear r1 hrow hst hrc hec hy hg hil
      go_wp2_with fail
      rename_i K0 hK0
      refine wp_region_list3 (SV2S (vsAL w.heap.size g o L cap i D k a b ec) (fun j => if j = 5 then [21] else if j = 6 then [15] else if j = 7 then [22] else [7])) (BaseAL w.heap.size g o L cap i (Value.agg (A))) (Below wr.heap.size wr) (TS U0 U1 wr y) (RV (vsAL w.heap.size g o L cap i D k a b ec) (SpAL U0 U1 wr y ec)) rfl (by kernel_rfl) (RV.ext2S (f := fun j => if j = 5 then [21] else if j = 6 then [15] else if j = 7 then [22] else [7]) (SpAL.ext wr y ec)) ?_ ((Below.refl _ _).drew) (BaseAL.of _ (by kernel_rfl)) ?_ ?_
      · exact ⟨BaseAL.put16, BaseAL.put17, BaseAL.put18, BaseAL.put19, BaseAL.put20, BaseAL.put21, BaseAL.put15, BaseAL.put22, BaseAL.put23, BaseAL.put7, fun a v h => h, BaseAL.put8, trivial⟩
      · refine ⟨?_, ?_, ?_, ?_, ?_, ?_, ?_, ?_, ?_, ?_, ?_, ?_, trivial⟩
        all_goals
          intro a w' hC hB hR
          obtain ⟨u, rfl⟩ := hB
          have HC := Lib.hid hC
          clear hC
          clear hK0
        · clear hR
          refine if_yes (by kernel_rfl) ?_
          exact wp_load_row 32 (.tmp 2) rfl w.heap.size rfl 32 D (0, 0) _ (HAB.out _ HC.out) Try.underlying32 rfl HSA.out ⟨.agg D, rfl, HC.out, TS.refl _ _ _, rfl⟩
        · clear hR
          refine if_yes (by kernel_rfl) ?_
          unfold Oper.wp
          go_simp
          exact ⟨.slice (some ⟨g, o, none⟩) L cap, rfl, HC.out, TS.refl _ _ _, rfl⟩
        · clear hR
          refine if_yes (by kernel_rfl) ?_
          unfold Oper.wp
          go_simp
          exact ⟨.int .i64 (i : Int), rfl, HC.out, TS.refl _ _ _, rfl⟩
        · have h17 : u 17 = .slice (some ⟨g, o, none⟩) L cap := hR ⟨1, .data⟩ (by simp) rfl
          have h18 : u 18 = .int .i64 (i : Int) := hR ⟨2, .data⟩ (by simp) rfl
          have hin := HIN.out
          clear hR
          simp only [h17, h18]
          clear h17 h18
          refine if_yes (by kernel_rfl) ?_
          unfold Oper.wp
          go_simp
          exact ⟨.pointer (some ⟨g, o + i * 3, none⟩), rfl, HC.out, TS.refl _ _ _, rfl⟩
        · have h19 : u 19 = .pointer (some ⟨g, o + i * 3, none⟩) := hR ⟨3, .data⟩ (by simp) rfl
          clear hR
          simp only [h19]
          clear h19
          refine if_yes (by kernel_rfl) ?_
          exact wp_load_mid 37 (.tmp 19) rfl g (o + i * 3) rfl (ra k a b).toList _ (HRC.out _ HC.out) Try.underlying37 rfl size_rec ⟨.agg (ra k a b), rfl, HC.out, TS.refl _ _ _, rfl⟩
        · have h16 : u 16 = .agg D := hR ⟨0, .data⟩ (by simp) rfl
          have h20 : u 20 = .agg (ra k a b) := hR ⟨4, .data⟩ (by simp) rfl
          clear hR
          simp only [h16, h20]
          clear h16 h20
          refine if_yes (by kernel_rfl) ?_
          unfold Oper.wp
          go_simp
          refine (HAP.out w' HC.out).mono ?_
          rintro e w2 ⟨⟨A2, rfl, h2⟩, hb2⟩
          exact ⟨.tuple #[.agg A2, .int .i64 ec], rfl, HC.out.trans (hb2.mono HC.out.size), TS.call HC.out hb2, ⟨A2, rfl, h2⟩⟩
        · obtain ⟨A2, h21, hs2⟩ := hR ⟨5, .data⟩ (by simp) rfl
          have h21 : u 21 = .tuple #[.agg A2, .int .i64 ec] := h21
          clear hR
          refine if_yes (by kernel_rfl) ?_
          simp only [h21]
          unfold Oper.wp
          go_simp
          exact ⟨.tuple #[.agg A2, .int .i64 ec], rfl, HC.out, TS.refl _ _ _, ⟨A2, rfl, hs2⟩⟩
        · obtain ⟨A2, h15, hs2⟩ := hR ⟨6, .data⟩ (by simp) rfl
          have h15 : u 15 = .tuple #[.agg A2, .int .i64 ec] := h15
          clear hR
          refine if_yes (by kernel_rfl) ?_
          simp only [h15]
          unfold Oper.wp
          go_simp
          exact ⟨.agg A2, rfl, HC.out, TS.refl _ _ _, ⟨A2, rfl, hs2⟩⟩
        · obtain ⟨A2, h15, hs2⟩ := hR ⟨6, .data⟩ (by simp) rfl
          have h15 : u 15 = .tuple #[.agg A2, .int .i64 ec] := h15
          clear hR
          refine if_yes (by kernel_rfl) ?_
          simp only [h15]
          unfold Oper.wp
          go_simp
          exact ⟨.int .i64 ec, rfl, HC.out, TS.refl _ _ _, rfl⟩
        · clear hR
          refine if_yes (by kernel_rfl) ?_
          unfold Oper.wp
          go_simp
          exact ⟨.pointer (some ⟨w'.heap.size, 0, none⟩), rfl, HC.out.alloc HC.out.size _, TS.call HC.out ((Below.refl _ _).alloc (Nat.le_refl _) _), ⟨w'.heap.size, nil4, rfl, HC.out.size, Blk.new w' nil4 32, rfl, allSl_nil4⟩⟩
        · obtain ⟨A2, h22, hs2⟩ := hR ⟨7, .data⟩ (by simp) rfl
          have h22 : u 22 = .agg A2 := h22
          obtain ⟨q, cs, h7, hq, hqk, hcs, hall⟩ := hR ⟨9, .data⟩ (by simp) rfl
          have h7 : u 7 = .pointer (some ⟨q, 0, none⟩) := h7
          clear hR
          refine if_yes (by kernel_rfl) ?_
          simp only [h22, h7]
          exact wp_store_row 32 (.tmp 7) (.tmp 22) rfl q A2 rfl rfl 32 cs hqk (snAt_sizeT hs2) (hcs.trans (snAt_four4 hs2)) (snAt_oneT hs2) ⟨undef, rfl, below_put hq _ HC.out, TS.store HC.out hq hqk hall hs2, ⟨q, rfl, StP.mk HC.out hq hqk hall hs2⟩⟩
        · have h23 : u 23 = .int .i64 ec := hR ⟨8, .data⟩ (by simp) rfl
          clear hR
          simp only [h23]
          clear h23
          refine if_yes (by kernel_rfl) ?_
          unfold Oper.wp
          go_simp
          exact ⟨.int .i64 ec, rfl, HC.out, TS.refl _ _ _, rfl⟩
      · intro aa w5 hC hB hR
        obtain ⟨q, h7, hq⟩ := hR 10 (by decide)
        have h8 : aa.tmps.getD 8 undef = .int .i64 ec := hR 11 (by decide)
        clear hR
        obtain ⟨u, rfl⟩ := hB
        have h7 : u 7 = .pointer (some ⟨q, 0, none⟩) := h7
        have h8 : u 8 = .int .i64 ec := h8
        simp only [h7, h8]
        obtain ⟨hqw, _, A2, hqk, hs2⟩ := hq
        have HAL5 := Lib.hid (HAL.out.call hC)
        have HSN5 := Lib.hid (HSN.out.below hC)
        have HQ := Lib.hid hqk
        have HS2' := Lib.hid hs2
        clear h7 h8 hC hqk hs2 HAB HAP HRC HAL HSN hqw
        by_cases hh : HasR z ⟨k, a, b⟩
        · obtain rfl : ec = 0 := HEC.out.symm.trans (if_pos hh)
          have hyc : y = chgX z ⟨k, a, b⟩ := HY.out.symm.trans (if_pos hh)
          have HN : Hid (CntB y ∧ LenE y x) := by
            rw [hyc]
            obtain ⟨e1, e2, e3, e4⟩ := LenE.chg z ⟨k, a, b⟩
            obtain ⟨f1, f2, f3, f4⟩ := HCZ.out.2
            exact ⟨HCZ.out.1.chg _, e1.trans f1, e2.trans f2, e3.trans f3, e4.trans f4⟩
          have HEQ2 : Hid (allE x l = allE y (l.drop (i + 1)) ∧ allX x l = allX y (l.drop (i + 1))) := by
            refine ⟨HEQ.out.1.trans (HST.out.1.trans ?_), HEQ.out.2.trans (HST.out.2.trans ?_)⟩
            · rw [if_pos hh, hyc]
            · rw [if_pos hh, hyc]
          have HSZ2 : Hid ((Try.prog.info? 32).map (·.size) = some A2.size) := snAt_sizeT HS2'.out
          have HSZ4 : Hid (D.size = A2.size) := (snAt_four4 HSN5.out).symm.trans (snAt_four4 HS2'.out)
          have HN6 : Hid (AlW w A2 (w5.setRow w.heap.size A2)) := ⟨⟨HAL5.out.1.1.put _, HAL5.out.1.2.1.put_other (by omega) _, by rw [size_setRow]; exact HAL5.out.1.2.2⟩, below_put (Nat.le_refl _) _ HAL5.out.2⟩
          have HS6 : Hid (SnG U0 U1 (w5.setRow w.heap.size A2) A2 y) := sn_put_row HAL5.out.1.1 (snAt_all HSN5.out) _ HS2'.out
          clear hh hyc HEC HY HST HEQ
          go_wp2_with (first
            | (refine wpList_load_row rfl 32 (.tmp 7) rfl q rfl 32 A2 (0, 0) _ HQ.out Try.underlying32 rfl HSZ2.out ?_)
            | (refine wpList_store_row rfl 32 (.tmp 2) (.tmp 28) rfl w.heap.size A2 rfl rfl 32 D HAL5.out.1.1 HSZ2.out HSZ4.out (snAt_oneT HS2'.out) ?_))
          refine ⟨⟨i + 1, y, A2, by omega, by go_num, HN6, HS6, HN, HEQ2⟩, ?_⟩
          simp [intOf]; omega
        · obtain rfl : ec = 110 := HEC.out.symm.trans (if_neg hh)
          have HG : Hid (allE x l = 110 ∧ allX x l = z) := ⟨HEQ.out.1.trans (HST.out.1.trans (if_neg hh)), HEQ.out.2.trans (HST.out.2.trans (if_neg hh))⟩
          have HSZ2 : Hid ((Try.prog.info? 32).map (·.size) = some D.size) := snAt_sizeT HSN5.out
          have HSZ4 : Hid (nil4.size = D.size) := snAt_four4 HSN5.out
          clear hh HEC HY HST HEQ
          go_wp2_with (first
            | (refine wpList_load_row rfl 32 (.tmp 2) rfl w.heap.size rfl 32 D (0, 0) _ HAL5.out.1.1 Try.underlying32 rfl HSZ2.out ?_)
            | (refine wpList_store_row rfl 32 (.tmp 4) (.tmp 26) rfl (w.heap.size + 1) D rfl rfl 32 nil4 HAL5.out.1.2.1 HSZ2.out HSZ4.out (snAt_oneT HSN5.out) ?_))
          refine bodyPost_ret (results_cell_tmp rfl _ _ (w.heap.size + 1) 32 D _ rfl (HAL5.out.1.2.1.put _) Try.underlying32 rfl HSZ2.out) rfl ?_
          exact al_end HAL5.out HSN5.out HG.out
    · obtain rfl : i = L := by omega
      have hltz : ¬ (i : Int) < (i : Int) := by omega
      have HG : Hid (allE x l = 0 ∧ allX x l = z) := by
        have h := HEQ.out
        rw [List.drop_eq_nil_of_le (by rw [HLN.out]; exact Nat.le_refl _)] at h
        exact h
      have HSZ2 : Hid ((Try.prog.info? 32).map (·.size) = some D.size) := snAt_sizeT HSN.out
      have HSZ4 : Hid (nil4.size = D.size) := snAt_four4 HSN.out
      clear hlt
      go_wp2_with (first
        | (refine wpList_load_row rfl 32 (.tmp 2) rfl w.heap.size rfl 32 D (0, 0) _ HAL.out.1.1 Try.underlying32 rfl HSZ2.out ?_)
        | (refine wpList_store_row rfl 32 (.tmp 4) (.tmp 29) rfl (w.heap.size + 1) D rfl rfl 32 nil4 HAL.out.1.2.1 HSZ2.out HSZ4.out (snAt_oneT HSN.out) ?_))
      refine bodyPost_ret (results_cell_tmp rfl _ _ (w.heap.size + 1) 32 D _ rfl (HAL.out.1.2.1.put _) Try.underlying32 rfl HSZ2.out) rfl ?_
      exact al_end HAL.out HSN.out HG.out

end Go.Proofs.Ytgnjknboahcmgaa

/- The reference of layer 14, walked: New. -/
namespace Go.Proofs.Ytgnjknboahcmgaa
set_option maxRecDepth 100000
open Go.RowKit

def mkC (n : Nat) : Array Value := madeCells #[.int .i64 0] n
theorem makeN (w : World) (n : Nat) (hn : n ≤ 1000000) : Sem.run Try.prog (Instr.makeSlice 30 (.int .i64 (n : Int)) (.int .i64 (n : Int))) w = .ok (.slice (some ⟨w.heap.size, 0, none⟩) n n) (w.alloc (.cells (mkC n) 3)) := by
  obtain ⟨i0, hi, hz0, hz1, hz2⟩ := info_partsX infoInt
  have h := run_make (P := Try.prog) w 30 3 i0 _ Try.underlying30 hi hz0 .i64 .i64 (n : Int) (n : Int) (by omega) (Int.le_refl _) (by rw [hz2]; omega) (by omega)
  rw [hz1] at h
  simp only [Nat.mul_one, Int.toNat_natCast] at h
  exact h
theorem iv_made {w : World} {g n : Nat} (h : Blk w g (mkC n) 3) (hz : n ≤ 1000000) : IvAt w (.slice (some ⟨g, 0, none⟩) n n) (List.replicate n 0) := by
  refine ⟨some ⟨g, 0, none⟩, n, by rw [List.length_replicate], ⟨by rw [List.length_replicate]; exact Nat.le_refl _, by unfold maxLen; omega⟩, fun _ => ⟨g, 0, rfl, h.lt, fun i hi => ?_⟩⟩
  have hi2 : i < n := by rwa [List.length_replicate] at hi
  rw [Nat.zero_add, h.cell, List.getElem_replicate]
  simp [mkC, madeCells, hi2, Nat.mod_one]
def nwA (b n g0 g1 g2 g3 : Nat) : Array Value := #[.slice (some ⟨g0, 0, none⟩) n n, .slice (some ⟨g1, 0, none⟩) b b, .slice (some ⟨g2, 0, none⟩) b b, .slice (some ⟨g3, 0, none⟩) b b]
theorem nwA_one (b n g0 g1 g2 g3 : Nat) : (nwA b n g0 g1 g2 g3).all (·.oneCell') = true := by unfold nwA; simp [Value.oneCell']
def newX (b n : Nat) : Sn := ⟨List.replicate n 0, List.replicate b 0, List.replicate b 0, List.replicate b 0⟩
def Nw4 (b n g0 g1 g2 g3 : Nat) (w : World) : Prop := Blk w g0 (mkC n) 3 ∧ Blk w g1 (mkC b) 3 ∧ Blk w g2 (mkC b) 3 ∧ Blk w g3 (mkC b) 3
theorem Nw4.sn {b n g0 g1 g2 g3 : Nat} {w : World} (h : Nw4 b n g0 g1 g2 g3 w) (hb : b ≤ 64) (hn : n ≤ 4096) : SnAt w (nwA b n g0 g1 g2 g3) (newX b n) :=
  ⟨_, _, _, _, rfl, iv_made h.1 (by omega), iv_made h.2.1 (by omega), iv_made h.2.2.1 (by omega), iv_made h.2.2.2 (by omega)⟩
theorem blk_neT {w : World} {g b : Nat} {cs ds : Array Value} {t t' : TypeId} (h : Blk w g cs t) (h' : Blk w b ds t') (hne : t ≠ t') : b ≠ g := fun e => by
  subst e
  unfold Blk at h h'
  rw [h] at h'
  cases h'
  exact hne rfl
theorem Nw4.put {b n g0 g1 g2 g3 q : Nat} {w : World} {cs : Array Value} (h : Nw4 b n g0 g1 g2 g3 w) (hb : Blk w q cs 32) (ds : Array Value) : Nw4 b n g0 g1 g2 g3 (w.setRow q ds) :=
  ⟨h.1.put_other (blk_neT h.1 hb (by decide)) ds, h.2.1.put_other (blk_neT h.2.1 hb (by decide)) ds, h.2.2.1.put_other (blk_neT h.2.2.1 hb (by decide)) ds, h.2.2.2.put_other (blk_neT h.2.2.2 hb (by decide)) ds⟩
/-- blocks from B on -/
def Fr4 (B g0 g1 g2 g3 : Nat) : Prop := B ≤ g0 ∧ B ≤ g1 ∧ B ≤ g2 ∧ B ≤ g3
def NwP (B b n : Nat) (w : World) : Prop := ∃ g0 g1 g2 g3, Fr4 B g0 g1 g2 g3 ∧ Blk w (B + 1) (nwA b n g0 g1 g2 g3) 32 ∧ Nw4 b n g0 g1 g2 g3 w
theorem NwP.mk {B b n g0 g1 g2 g3 : Nat} {w : World} {cs : Array Value} (hb : Blk w (B + 1) cs 32) (hl : Fr4 B g0 g1 g2 g3) (hk : Nw4 b n g0 g1 g2 g3 w) : NwP B b n (w.setRow (B + 1) (nwA b n g0 g1 g2 g3)) :=
  ⟨g0, g1, g2, g3, hl, hb.put _, hk.put hb _⟩
def TN (B b n : Nat) (w w' : World) : Prop := (∀ g m, Blk w g (mkC m) 3 → Blk w' g (mkC m) 3) ∧ (NwP B b n w → NwP B b n w')
theorem TN.refl (B b n : Nat) (w : World) : TN B b n w w := ⟨fun _ _ h => h, fun h => h⟩
theorem TN.alloc {B b n : Nat} (w : World) (o : Obj) : TN B b n w (w.alloc o) :=
  ⟨fun _ _ h => h.alloc o, fun ⟨g0, g1, g2, g3, h0, h1, h2, h3, h4, h5⟩ => ⟨g0, g1, g2, g3, h0, h1.alloc o, h2.alloc o, h3.alloc o, h4.alloc o, h5.alloc o⟩⟩
theorem TN.store {B b n g0 g1 g2 g3 : Nat} {w : World} {cs : Array Value} (hb : Blk w (B + 1) cs 32) (hl : Fr4 B g0 g1 g2 g3) (hk : Nw4 b n g0 g1 g2 g3 w) : TN B b n w (w.setRow (B + 1) (nwA b n g0 g1 g2 g3)) :=
  ⟨fun _ _ h => h.put_other (blk_neT h hb (by decide)) _, fun _ => NwP.mk hb hl hk⟩
/-- the boxes of New -/
def CN (w0 : World) (b : Int) (l y : Int) (n : Int) (s r : Int) (w : World) : Prop := Blk w w0.heap.size (gv b l y n s r) 23 ∧ (∃ cs : Array Value, Blk w (w0.heap.size + 1) cs 32 ∧ 4 = cs.size) ∧ Below w0.heap.size w0 w
theorem CN.after {w0 w w' : World} {b l y n s r : Int} (h : CN w0 b l y n s r w) (hb : Below w.heap.size w w') : CN w0 b l y n s r w' :=
  ⟨h.1.after hb, h.2.1.imp fun _ hc => ⟨hc.1.after hb, hc.2⟩, h.2.2.trans (hb.mono h.2.2.size)⟩
theorem CN.alloc {w0 w : World} {b l y n s r : Int} (h : CN w0 b l y n s r w) (o : Obj) : CN w0 b l y n s r (w.alloc o) := h.after ((Below.refl _ _).alloc (Nat.le_refl _) _)
theorem CN.drew {w0 w : World} {b l y n s r : Int} (h : CN w0 b l y n s r w) : CN w0 b l y n s r w.drew := h.after (Below.refl _ _).drew
theorem CN.put {w0 w : World} {b l y n s r : Int} {cs : Array Value} (h : CN w0 b l y n s r w) (hb : Blk w (w0.heap.size + 1) cs 32) (ds : Array Value) (hs : 4 = ds.size) : CN w0 b l y n s r (w.setRow (w0.heap.size + 1) ds) :=
  ⟨h.1.put_other (by omega) ds, ⟨ds, hb.put _, hs⟩, below_put (by omega) _ h.2.2⟩
/-- what each operation leaves -/
def SpNW (B b n : Nat) (j : Nat) (a : Act) (w : World) : Prop := match j with
  | 2 => ∃ g, a.tmps.getD 10 undef = .slice (some ⟨g, 0, none⟩) n n ∧ Blk w g (mkC n) 3 ∧ B ≤ g
  | 5 => ∃ g, a.tmps.getD 13 undef = .slice (some ⟨g, 0, none⟩) b b ∧ Blk w g (mkC b) 3 ∧ B ≤ g
  | 8 => ∃ g, a.tmps.getD 16 undef = .slice (some ⟨g, 0, none⟩) b b ∧ Blk w g (mkC b) 3 ∧ B ≤ g
  | 11 => ∃ g, a.tmps.getD 19 undef = .slice (some ⟨g, 0, none⟩) b b ∧ Blk w g (mkC b) 3 ∧ B ≤ g
  | 12 => ∃ g0 g1 g2 g3, a.tmps.getD 20 undef = .agg (nwA b n g0 g1 g2 g3) ∧ Fr4 B g0 g1 g2 g3 ∧ Nw4 b n g0 g1 g2 g3 w
  | _ => NwP B b n w
def fNW (j : Nat) : List Tmp := if j = 2 then [10] else if j = 5 then [13] else if j = 8 then [16] else if j = 11 then [19] else if j = 12 then [20] else []
theorem SpNW.ext (B b n : Nat) : ∀ (j : Nat) (a a' : Act) (w w' : World), SpNW B b n j a w → (∀ d ∈ fNW j, a'.tmps.getD d undef = a.tmps.getD d undef) → TN B b n w w' → SpNW B b n j a' w' := by
  intro j a a' w w' h hd hT
  unfold SpNW at h ⊢
  split at h
  · obtain ⟨g, h1, h2, h3⟩ := h; exact ⟨g, (hd 10 (by simp [fNW])).trans h1, hT.1 _ _ h2, h3⟩
  · obtain ⟨g, h1, h2, h3⟩ := h; exact ⟨g, (hd 13 (by simp [fNW])).trans h1, hT.1 _ _ h2, h3⟩
  · obtain ⟨g, h1, h2, h3⟩ := h; exact ⟨g, (hd 16 (by simp [fNW])).trans h1, hT.1 _ _ h2, h3⟩
  · obtain ⟨g, h1, h2, h3⟩ := h; exact ⟨g, (hd 19 (by simp [fNW])).trans h1, hT.1 _ _ h2, h3⟩
  · obtain ⟨g0, g1, g2, g3, h1, h0, h2, h3, h4, h5⟩ := h; exact ⟨g0, g1, g2, g3, (hd 20 (by simp [fNW])).trans h1, h0, hT.1 _ _ h2, hT.1 _ _ h3, hT.1 _ _ h4, hT.1 _ _ h5⟩
  · exact hT.2 h

/-- what each operation of the region NW leaves -/
def vsNW (B b n : Nat) : List (Option (Tmp × Value)) :=
  [some (8, .pointer (some ⟨B, 3, none⟩)), some (9, .int .i64 (n : Int)), none, some (11, .pointer (some ⟨B, 0, none⟩)), some (12, .int .i64 (b : Int)), none, some (14, .pointer (some ⟨B, 0, none⟩)), some (15, .int .i64 (b : Int)), none, some (17, .pointer (some ⟨B, 0, none⟩)), some (18, .int .i64 (b : Int)), none, none, none, some (3, .int .i64 0)]
/-- the frame while the region NW runs -/
def BaseNW (B : Nat) (a : Act) : Prop := ∃ u : Nat → Value, a = ⟨#[u 0, .pointer (some ⟨B, 0, none⟩), .pointer (some ⟨B + 1, 0, none⟩), u 3, u 4, u 5, u 6, u 7, u 8, u 9, u 10, u 11, u 12, u 13, u 14, u 15, u 16, u 17, u 18, u 19, u 20], []⟩
theorem BaseNW.of {B : Nat} (arr : Array Value) (h : arr = #[arr.getD 0 undef, .pointer (some ⟨B, 0, none⟩), .pointer (some ⟨B + 1, 0, none⟩), arr.getD 3 undef, arr.getD 4 undef, arr.getD 5 undef, arr.getD 6 undef, arr.getD 7 undef, arr.getD 8 undef, arr.getD 9 undef, arr.getD 10 undef, arr.getD 11 undef, arr.getD 12 undef, arr.getD 13 undef, arr.getD 14 undef, arr.getD 15 undef, arr.getD 16 undef, arr.getD 17 undef, arr.getD 18 undef, arr.getD 19 undef, arr.getD 20 undef]) : BaseNW B ⟨arr, []⟩ := ⟨fun i => arr.getD i undef, by rw [← h]⟩
theorem BaseNW.put8 {B : Nat} (a : Act) (v : Value) (h : BaseNW B a) : BaseNW B (a.put (some 8) v) := by
  obtain ⟨u, rfl⟩ := h
  exact ⟨fun i => if i = 8 then v else u i, by kernel_rfl⟩
theorem BaseNW.put9 {B : Nat} (a : Act) (v : Value) (h : BaseNW B a) : BaseNW B (a.put (some 9) v) := by
  obtain ⟨u, rfl⟩ := h
  exact ⟨fun i => if i = 9 then v else u i, by kernel_rfl⟩
theorem BaseNW.put10 {B : Nat} (a : Act) (v : Value) (h : BaseNW B a) : BaseNW B (a.put (some 10) v) := by
  obtain ⟨u, rfl⟩ := h
  exact ⟨fun i => if i = 10 then v else u i, by kernel_rfl⟩
theorem BaseNW.put11 {B : Nat} (a : Act) (v : Value) (h : BaseNW B a) : BaseNW B (a.put (some 11) v) := by
  obtain ⟨u, rfl⟩ := h
  exact ⟨fun i => if i = 11 then v else u i, by kernel_rfl⟩
theorem BaseNW.put12 {B : Nat} (a : Act) (v : Value) (h : BaseNW B a) : BaseNW B (a.put (some 12) v) := by
  obtain ⟨u, rfl⟩ := h
  exact ⟨fun i => if i = 12 then v else u i, by kernel_rfl⟩
theorem BaseNW.put13 {B : Nat} (a : Act) (v : Value) (h : BaseNW B a) : BaseNW B (a.put (some 13) v) := by
  obtain ⟨u, rfl⟩ := h
  exact ⟨fun i => if i = 13 then v else u i, by kernel_rfl⟩
theorem BaseNW.put14 {B : Nat} (a : Act) (v : Value) (h : BaseNW B a) : BaseNW B (a.put (some 14) v) := by
  obtain ⟨u, rfl⟩ := h
  exact ⟨fun i => if i = 14 then v else u i, by kernel_rfl⟩
theorem BaseNW.put15 {B : Nat} (a : Act) (v : Value) (h : BaseNW B a) : BaseNW B (a.put (some 15) v) := by
  obtain ⟨u, rfl⟩ := h
  exact ⟨fun i => if i = 15 then v else u i, by kernel_rfl⟩
theorem BaseNW.put16 {B : Nat} (a : Act) (v : Value) (h : BaseNW B a) : BaseNW B (a.put (some 16) v) := by
  obtain ⟨u, rfl⟩ := h
  exact ⟨fun i => if i = 16 then v else u i, by kernel_rfl⟩
theorem BaseNW.put17 {B : Nat} (a : Act) (v : Value) (h : BaseNW B a) : BaseNW B (a.put (some 17) v) := by
  obtain ⟨u, rfl⟩ := h
  exact ⟨fun i => if i = 17 then v else u i, by kernel_rfl⟩
theorem BaseNW.put18 {B : Nat} (a : Act) (v : Value) (h : BaseNW B a) : BaseNW B (a.put (some 18) v) := by
  obtain ⟨u, rfl⟩ := h
  exact ⟨fun i => if i = 18 then v else u i, by kernel_rfl⟩
theorem BaseNW.put19 {B : Nat} (a : Act) (v : Value) (h : BaseNW B a) : BaseNW B (a.put (some 19) v) := by
  obtain ⟨u, rfl⟩ := h
  exact ⟨fun i => if i = 19 then v else u i, by kernel_rfl⟩
theorem BaseNW.put20 {B : Nat} (a : Act) (v : Value) (h : BaseNW B a) : BaseNW B (a.put (some 20) v) := by
  obtain ⟨u, rfl⟩ := h
  exact ⟨fun i => if i = 20 then v else u i, by kernel_rfl⟩
theorem BaseNW.put3 {B : Nat} (a : Act) (v : Value) (h : BaseNW B a) : BaseNW B (a.put (some 3) v) := by
  obtain ⟨u, rfl⟩ := h
  exact ⟨fun i => if i = 3 then v else u i, by kernel_rfl⟩

theorem iv_madeG {U0 U1 : Nat} {w : World} {g n : Nat} (h : Blk w g (mkC n) 3) (hz : n ≤ 1000000) (hg : U1 ≤ g) : IvG U0 U1 w (.slice (some ⟨g, 0, none⟩) n n) (List.replicate n 0) := by
  refine ⟨some ⟨g, 0, none⟩, n, by rw [List.length_replicate], ⟨by rw [List.length_replicate]; exact Nat.le_refl _, by unfold maxLen; omega⟩, fun _ => ⟨g, 0, rfl, Or.inr hg, h.lt, fun i hi => ?_⟩⟩
  have hi2 : i < n := by rwa [List.length_replicate] at hi
  rw [Nat.zero_add, h.cell, List.getElem_replicate]
  simp [mkC, madeCells, hi2, Nat.mod_one]
theorem Nw4.sng {U0 U1 b n g0 g1 g2 g3 : Nat} {w : World} (h : Nw4 b n g0 g1 g2 g3 w) (hl : Fr4 U1 g0 g1 g2 g3) (hb : b ≤ 64) (hn : n ≤ 4096) : SnG U0 U1 w (nwA b n g0 g1 g2 g3) (newX b n) :=
  ⟨_, _, _, _, rfl, iv_madeG h.1 (by omega) hl.1, iv_madeG h.2.1 (by omega) hl.2.1, iv_madeG h.2.2.1 (by omega) hl.2.2.1, iv_madeG h.2.2.2 (by omega) hl.2.2.2⟩
theorem Fr4.mono {B C g0 g1 g2 g3 : Nat} (h : Fr4 B g0 g1 g2 g3) (hC : C ≤ B) : Fr4 C g0 g1 g2 g3 := by
  obtain ⟨h1, h2, h3, h4⟩ := h
  exact ⟨by omega, by omega, by omega, by omega⟩
def NewT (b l y n s r : Int) (w : World) (e : Ending) (w' : World) : Prop :=
  (OkG b l y n s r → ∃ A, e = .returned (.tuple #[.agg A, .int .i64 0]) ∧ ∀ U0 U1, U1 ≤ w.heap.size → SnG U0 U1 w' A (newX b.toNat n.toNat)) ∧ (¬ OkG b l y n s r → e = .returned (.tuple #[.agg nil4, .int .i64 60])) ∧ Below w.heap.size w w'

theorem CN.new (w : World) (b l y n s r : Int) : CN w b l y n s r ((w.alloc (.cells (gv b l y n s r) 23)).alloc (.cells nil4 32)) := by
  have b1 : Blk ((w.alloc (.cells (gv b l y n s r) 23)).alloc (.cells nil4 32)) (w.heap.size + 1) nil4 32 := by
    have h := Blk.new (w.alloc (.cells (gv b l y n s r) 23)) nil4 32
    rwa [World.size_alloc] at h
  exact ⟨(Blk.new _ _ _).alloc _, ⟨nil4, b1, rfl⟩, ((Below.refl _ _).alloc (Nat.le_refl _) _).alloc (by simp) _⟩

set_option maxHeartbeats 4000000 in
theorem rst_new (b l y n s r : Int) (w : World) : Calls Try.prog 9 #[.agg (gv b l y n s r)] w (NewT b l y n s r w) := by
  obtain ⟨w1, hw1⟩ : ∃ w1, (w.alloc (.cells (gv b l y n s r) 23)).alloc (.cells #[.slice none 0 0, .slice none 0 0, .slice none 0 0, .slice none 0 0] 32) = w1 := ⟨_, rfl⟩
  have HC1 : Hid (CN w b l y n s r w1) := by rw [← hw1]; exact CN.new w b l y n s r
  go_enter Try.func9, Try.ntmps9
  go_wp2_with (refine wpList_load_row rfl 23 (.tmp 1) rfl w.heap.size rfl 23 (gv b l y n s r) (0, 0) _ HC1.out.1 Try.underlying23 rfl size_geo ?_)
  clear hw1
  refine (rge_check b l y n s r w1).mono ?_
  rintro e w2 ⟨rfl, hb2⟩
  have HC2 := Lib.hid (HC1.out.after hb2)
  clear hb2 HC1
  by_cases hok : OkG b l y n s r
  · rw [chk_ok hok]
    have HNB : Hid (n ≤ 4096 ∧ 1 ≤ n ∧ 8 ≤ b ∧ b ≤ 64) := by
      obtain ⟨h1, _, _⟩ := hok
      unfold PreG at h1
      show n ≤ 4096 ∧ 1 ≤ n ∧ 8 ≤ b ∧ b ≤ 64
      omega
    have HT := Lib.hid hok
    clear hok
    have h5 := HNB.out
    obtain ⟨b, rfl⟩ : ∃ k : Nat, b = k := ⟨b.toNat, by omega⟩
    obtain ⟨n, rfl⟩ : ∃ k : Nat, n = k := ⟨n.toNat, by omega⟩
    have HNN : Hid (n ≤ 4096 ∧ b ≤ 64) := by show n ≤ 4096 ∧ b ≤ 64; omega
    clear h5 HNB
    go_upto_region 3 with fail
    rename_i K0 hK0
    refine wp_region_list3 (SV2S (vsNW w.heap.size b n) fNW) (BaseNW w.heap.size) (CN w b l y n s r) (TN w.heap.size b n) (RV (vsNW w.heap.size b n) (SpNW w.heap.size b n)) rfl (by kernel_rfl) (RV.ext2S (f := fNW) (SpNW.ext w.heap.size b n)) ?_ (HC2.out.drew) (BaseNW.of _ (by kernel_rfl)) ?_ ?_
    · exact ⟨BaseNW.put8, BaseNW.put9, BaseNW.put10, BaseNW.put11, BaseNW.put12, BaseNW.put13, BaseNW.put14, BaseNW.put15, BaseNW.put16, BaseNW.put17, BaseNW.put18, BaseNW.put19, BaseNW.put20, fun a v h => h, BaseNW.put3, trivial⟩
    · refine ⟨?_, ?_, ?_, ?_, ?_, ?_, ?_, ?_, ?_, ?_, ?_, ?_, ?_, ?_, ?_, trivial⟩
      all_goals
        intro a w' hC hB hR
        obtain ⟨u, rfl⟩ := hB
        have HC := Lib.hid hC
        clear hC
        clear hK0
      · clear hR
        refine if_yes (by kernel_rfl) ?_
        unfold Oper.wp
        go_simp
        exact ⟨.pointer (some ⟨w.heap.size, 3, none⟩), rfl, HC.out, TN.refl _ _ _ _, rfl⟩
      · have h8 : u 8 = .pointer (some ⟨w.heap.size, 3, none⟩) := hR ⟨0, .data⟩ (by simp) rfl
        have hc : w'.cell? ⟨w.heap.size, 3, none⟩ = some (.int .i64 (n : Int)) := HC.out.1.cell 3
        clear hR
        simp only [h8]
        clear h8
        refine if_yes (by kernel_rfl) ?_
        unfold Oper.wp
        go_simp
        exact ⟨.int .i64 (n : Int), rfl, HC.out, TN.refl _ _ _ _, rfl⟩
      · have h9 : u 9 = .int .i64 (n : Int) := hR ⟨1, .data⟩ (by simp) rfl
        clear hR
        simp only [h9]
        clear h9
        refine if_yes (by kernel_rfl) ?_
        have hmk := makeN w' n (by have := HNN.out; omega)
        unfold Oper.wp
        go_simp
        exact ⟨.slice (some ⟨w'.heap.size, 0, none⟩) n n, rfl, HC.out.alloc _, TN.alloc _ _, ⟨w'.heap.size, rfl, Blk.new _ _ _, HC.out.2.2.size⟩⟩
      · clear hR
        refine if_yes (by kernel_rfl) ?_
        unfold Oper.wp
        go_simp
        exact ⟨.pointer (some ⟨w.heap.size, 0, none⟩), rfl, HC.out, TN.refl _ _ _ _, rfl⟩
      · have h11 : u 11 = .pointer (some ⟨w.heap.size, 0, none⟩) := hR ⟨3, .data⟩ (by simp) rfl
        have hc : w'.cell? ⟨w.heap.size, 0, none⟩ = some (.int .i64 (b : Int)) := HC.out.1.cell 0
        clear hR
        simp only [h11]
        clear h11
        refine if_yes (by kernel_rfl) ?_
        unfold Oper.wp
        go_simp
        exact ⟨.int .i64 (b : Int), rfl, HC.out, TN.refl _ _ _ _, rfl⟩
      · have h12 : u 12 = .int .i64 (b : Int) := hR ⟨4, .data⟩ (by simp) rfl
        clear hR
        simp only [h12]
        clear h12
        refine if_yes (by kernel_rfl) ?_
        have hmk := makeN w' b (by have := HNN.out; omega)
        unfold Oper.wp
        go_simp
        exact ⟨.slice (some ⟨w'.heap.size, 0, none⟩) b b, rfl, HC.out.alloc _, TN.alloc _ _, ⟨w'.heap.size, rfl, Blk.new _ _ _, HC.out.2.2.size⟩⟩
      · clear hR
        refine if_yes (by kernel_rfl) ?_
        unfold Oper.wp
        go_simp
        exact ⟨.pointer (some ⟨w.heap.size, 0, none⟩), rfl, HC.out, TN.refl _ _ _ _, rfl⟩
      · have h14 : u 14 = .pointer (some ⟨w.heap.size, 0, none⟩) := hR ⟨6, .data⟩ (by simp) rfl
        have hc : w'.cell? ⟨w.heap.size, 0, none⟩ = some (.int .i64 (b : Int)) := HC.out.1.cell 0
        clear hR
        simp only [h14]
        clear h14
        refine if_yes (by kernel_rfl) ?_
        unfold Oper.wp
        go_simp
        exact ⟨.int .i64 (b : Int), rfl, HC.out, TN.refl _ _ _ _, rfl⟩
      · have h15 : u 15 = .int .i64 (b : Int) := hR ⟨7, .data⟩ (by simp) rfl
        clear hR
        simp only [h15]
        clear h15
        refine if_yes (by kernel_rfl) ?_
        have hmk := makeN w' b (by have := HNN.out; omega)
        unfold Oper.wp
        go_simp
        exact ⟨.slice (some ⟨w'.heap.size, 0, none⟩) b b, rfl, HC.out.alloc _, TN.alloc _ _, ⟨w'.heap.size, rfl, Blk.new _ _ _, HC.out.2.2.size⟩⟩
      · clear hR
        refine if_yes (by kernel_rfl) ?_
        unfold Oper.wp
        go_simp
        exact ⟨.pointer (some ⟨w.heap.size, 0, none⟩), rfl, HC.out, TN.refl _ _ _ _, rfl⟩
      · have h17 : u 17 = .pointer (some ⟨w.heap.size, 0, none⟩) := hR ⟨9, .data⟩ (by simp) rfl
        have hc : w'.cell? ⟨w.heap.size, 0, none⟩ = some (.int .i64 (b : Int)) := HC.out.1.cell 0
        clear hR
        simp only [h17]
        clear h17
        refine if_yes (by kernel_rfl) ?_
        unfold Oper.wp
        go_simp
        exact ⟨.int .i64 (b : Int), rfl, HC.out, TN.refl _ _ _ _, rfl⟩
      · have h18 : u 18 = .int .i64 (b : Int) := hR ⟨10, .data⟩ (by simp) rfl
        clear hR
        simp only [h18]
        clear h18
        refine if_yes (by kernel_rfl) ?_
        have hmk := makeN w' b (by have := HNN.out; omega)
        unfold Oper.wp
        go_simp
        exact ⟨.slice (some ⟨w'.heap.size, 0, none⟩) b b, rfl, HC.out.alloc _, TN.alloc _ _, ⟨w'.heap.size, rfl, Blk.new _ _ _, HC.out.2.2.size⟩⟩
      · obtain ⟨g0, h0, k0⟩ := hR ⟨2, .data⟩ (by simp) rfl
        obtain ⟨g1, h1, k1⟩ := hR ⟨5, .data⟩ (by simp) rfl
        obtain ⟨g2, h2, k2⟩ := hR ⟨8, .data⟩ (by simp) rfl
        obtain ⟨g3, h3, k3⟩ := hR ⟨11, .data⟩ (by simp) rfl
        have h0 : u 10 = .slice (some ⟨g0, 0, none⟩) n n := h0
        have h1 : u 13 = .slice (some ⟨g1, 0, none⟩) b b := h1
        have h2 : u 16 = .slice (some ⟨g2, 0, none⟩) b b := h2
        have h3 : u 19 = .slice (some ⟨g3, 0, none⟩) b b := h3
        clear hR
        refine if_yes (by kernel_rfl) ?_
        simp only [h0, h1, h2, h3]
        unfold Oper.wp
        go_simp
        exact ⟨.agg (nwA b n g0 g1 g2 g3), rfl, HC.out, TN.refl _ _ _ _, ⟨g0, g1, g2, g3, rfl, ⟨k0.2, k1.2, k2.2, k3.2⟩, k0.1, k1.1, k2.1, k3.1⟩⟩
      · obtain ⟨g0, g1, g2, g3, h20, hl, hk⟩ := hR ⟨12, .data⟩ (by simp) rfl
        have h20 : u 20 = .agg (nwA b n g0 g1 g2 g3) := h20
        obtain ⟨cs, hbk, hcs⟩ := HC.out.2.1
        clear hR
        refine if_yes (by kernel_rfl) ?_
        simp only [h20]
        exact wp_store_row 32 (.tmp 2) (.tmp 20) rfl (w.heap.size + 1) (nwA b n g0 g1 g2 g3) rfl rfl 32 cs hbk size_state hcs.symm (nwA_one _ _ _ _ _ _) ⟨undef, rfl, HC.out.put hbk _ rfl, TN.store hbk hl hk, NwP.mk hbk hl hk⟩
      · clear hR
        refine if_yes (by kernel_rfl) ?_
        unfold Oper.wp
        go_simp
        exact ⟨.int .i64 0, rfl, HC.out, TN.refl _ _ _ _, rfl⟩
    · intro aa w5 hC hB hR
      have hN : NwP w.heap.size b n w5 := hR 13 (by decide)
      have h3 : aa.tmps.getD 3 undef = .int .i64 0 := hR 14 (by decide)
      clear hR
      obtain ⟨u, rfl⟩ := hB
      have h3 : u 3 = .int .i64 0 := h3
      simp only [h3]
      obtain ⟨g0, g1, g2, g3, hl4, hbk, hk⟩ := hN
      have HK := Lib.hid hbk
      have HS : Hid (∀ U0 U1, U1 ≤ w.heap.size → SnG U0 U1 w5 (nwA b n g0 g1 g2 g3) (newX b n)) := fun U0 U1 hU => hk.sng (hl4.mono hU) HNN.out.2 HNN.out.1
      have HC5 := Lib.hid hC
      clear h3 hl4 hbk hk hC
      go_wp2_with fail
      refine bodyPost_ret (results_cell_tmp rfl _ _ (w.heap.size + 1) 32 (nwA b n g0 g1 g2 g3) _ rfl HK.out Try.underlying32 rfl size_state) rfl ?_
      exact ⟨fun _ => ⟨_, rfl, HS.out⟩, fun h => absurd HT.out h, HC5.out.2.2⟩
  · rw [chk_no hok]
    have HT := Lib.hid hok
    clear hok
    obtain ⟨cs, hbk, hcs⟩ := HC2.out.2.1
    have HK := Lib.hid hbk
    have HSZ := Lib.hid hcs
    clear hbk hcs
    go_wp2_with (refine wpList_store_row rfl 32 (.tmp 2) (.tmp 7) rfl (w.heap.size + 1) nil4 rfl rfl 32 cs HK.out size_state HSZ.out.symm nil4_one ?_)
    refine bodyPost_ret (results_cell_tmp rfl _ _ (w.heap.size + 1) 32 nil4 _ rfl (HK.out.put _) Try.underlying32 rfl size_state) rfl ?_
    exact ⟨fun h => absurd h HT.out, fun _ => rfl, (HC2.out.put HK.out nil4 rfl).2.2⟩

end Go.Proofs.Ytgnjknboahcmgaa

/- As XInv2, where what holds all along may speak of the frame and the world together. -/
namespace Go.Proofs.Ytgnjknboahcmgaa

section
variable {P : Program} {ops : Array Oper} {Q : Exit → Act → World → Prop} {md : Region.Mode}

theorem wpAny_facts2J {Base : Act → Prop} {C : Act → World → Prop} {T : World → World → Prop} {R : Nat → Act → World → Prop} {S : Nat → List Tmp}
    (hbefore : ∀ (i : Nat) (o : Oper), ops[i]? = some o → ∀ e ∈ o.after, Region.binds md e = true → e.on < i)
    (hslots : ∀ (i j : Nat) (o o' : Oper), ops[i]? = some o → ops[j]? = some o' → j ≠ i → (∀ e ∈ o'.after, Region.binds md e = true → e.on ≠ i) → ∀ d, o.dst = some d → d ∉ S j)
    (hext : ∀ j a a' w w', R j a w → (∀ s ∈ S j, a'.tmps.getD s undef = a.tmps.getD s undef) → T w w' → R j a' w')
    (hbase : ∀ (i : Nat) (o : Oper), ops[i]? = some o → ∀ a v, Base a → Base (a.put o.dst v))
    (hops : ∀ (i : Nat) (o : Oper), ops[i]? = some o → ∀ a w, C a w → Base a → (∀ e ∈ o.after, Region.binds md e = true → R e.on a w) →
      wpOp P ops Q i (fun a' w' => ∃ v, a' = a.put o.dst v ∧ C a' w' ∧ T w w' ∧ R i a' w') a w)
    (hfin : ∀ a w, C a w → Base a → (∀ i, i < ops.size → R i a w) → Q .normal a w) :
    ∀ (fuel : Nat) (listed : Array Bool) (a : Act) (w : World), still ops.size listed ≤ fuel → listed.size = ops.size → C a w → Base a →
      (∀ i, i < ops.size → listed.getD i true = true → R i a w ∧ ∀ o, ops[i]? = some o → ∀ e ∈ o.after, Region.binds md e = true → listed.getD e.on true = true) → wpAny P md ops Q fuel listed a w := by
  have all : ∀ (listed : Array Bool), listed.size = ops.size → Region.ready md ops listed = [] → ∀ i, i < ops.size → listed.getD i true = true := by
    intro listed hsz hr i
    induction i using Nat.strongRecOn with
    | ind i ih =>
      intro hi
      cases hl : listed.getD i true with
      | true => rfl
      | false =>
        exfalso
        have hm : i ∈ Region.ready md ops listed := by
          rw [mem_ready]
          refine ⟨hl, ops[i], by simp [hi], fun e he hb => ?_⟩
          have hlt := hbefore i ops[i] (by simp [hi]) e he hb
          have h2 := ih e.on hlt (by omega)
          have h3 : e.on < listed.size := by omega
          simp [Array.getD, h3] at h2 ⊢
          exact h2
        rw [hr] at hm; cases hm
  intro fuel
  induction fuel with
  | zero =>
    intro listed a w hst hsz hC hB hR
    have hall := still_zero (Nat.le_zero.1 hst)
    have hr : Region.ready md ops listed = [] := by
      cases h : Region.ready md ops listed with
      | nil => rfl
      | cons i l =>
        have hm : i ∈ Region.ready md ops listed := by rw [h]; exact List.mem_cons_self
        obtain ⟨h1, o, ho, _⟩ := mem_ready.1 hm
        have hi : i < ops.size := (Array.getElem?_eq_some_iff.1 ho).1
        rw [hall i hi] at h1; cases h1
    exact ⟨hr, hfin a w hC hB fun i hi => (hR i hi (hall i hi)).1⟩
  | succ fuel ih =>
    intro listed a w hst hsz hC hB hR
    refine ⟨fun hr => hfin a w hC hB fun i hi => (hR i hi (all listed hsz hr i hi)).1, fun i hi => ?_⟩
    obtain ⟨h1, o, ho, hdeps⟩ := mem_ready.1 hi
    have hin : i < ops.size := (Array.getElem?_eq_some_iff.1 ho).1
    have hdl : ∀ e ∈ o.after, Region.binds md e = true → listed.getD e.on true = true := by
      intro e he hb
      have hlt := hbefore i o ho e he hb
      have h2 := hdeps e he hb
      have h3 : e.on < listed.size := by omega
      simp [Array.getD, h3] at h2 ⊢
      exact h2
    refine wpOp_mono ?_ (hops i o ho a w hC hB fun e he hb => (hR e.on (by have := hbefore i o ho e he hb; omega) (hdl e he hb)).1)
    rintro a' w' ⟨v, rfl, hC', hT, hRv⟩
    have hless := still_less hin h1
    have keep : ∀ k, listed.getD k true = true → (listed.setIfInBounds i true).getD k true = true := by
      intro k hk
      by_cases e : k = i
      · subst e
        have hs : k < listed.size := by omega
        simp [Array.getD, hs]
      · rw [getD_set_ne true (Ne.symm e)]; exact hk
    refine ih _ _ _ (by omega) (by simp [hsz]) hC' (hbase i o ho a v hB) fun j hj hlj => ?_
    by_cases e : j = i
    · subst e
      refine ⟨hRv, fun o' ho' e he hb => keep _ ?_⟩
      obtain rfl : o' = o := Option.some.inj (ho'.symm.trans ho)
      exact hdl e he hb
    · rw [getD_set_ne true (Ne.symm e)] at hlj
      obtain ⟨hRj, hdj⟩ := hR j hj hlj
      refine ⟨hext j a _ w w' hRj (fun s hs => put_slot fun x hx hxs => ?_) hT, fun o' ho' e he hb => keep _ (hdj o' ho' e he hb)⟩
      subst hxs
      refine hslots i j o ops[j] ho (by simp [hj]) e (fun e' he' hb' hne => ?_) x hx hs
      have := hdj ops[j] (by simp [hj]) e' he' hb'
      rw [hne, h1] at this; cases this

/-- what an operation leaves: its slot written, the world in the class and gone on, its own fact -/
def LeavesJ (C : Act → World → Prop) (T : World → World → Prop) (R : Nat → Act → World → Prop) (i : Nat) (o : Oper) (a : Act) (w : World) (a' : Act) (w' : World) : Prop := ∃ v, a' = a.put o.dst v ∧ C a' w' ∧ T w w' ∧ R i a' w'
/-- .. where operations may be guarded: an operation that is not wanted leaves its slot undefined -/
theorem wp_region_list3J {id : Nat} {l : List Oper} {a : Act} {w : World} (S : List (List Tmp)) (Base : Act → Prop) (C : Act → World → Prop) (T : World → World → Prop) (R : Nat → Act → World → Prop) (hm : P.follows .mixedOrders = true)
    (hpl : planB l S = true) (hext : ∀ j a a' w w', R j a w → (∀ s ∈ S.getD j [], a'.tmps.getD s undef = a.tmps.getD s undef) → T w w' → R j a' w')
    (hbase : AllFrom (fun _ o => ∀ a v, Base a → Base (a.put o.dst v)) 0 l) (hC : C a { w with drawn := w.drawn + 1 }) (hB : Base a)
    (hops : AllFrom (fun i o => ∀ a w, C a w → Base a → (∀ e ∈ o.after, Region.binds .any e = true → R e.on a w) →
      if Region.wanted o (yielded l.toArray a.tmps) = true then o.wp P a w (LeavesJ C T R i o a w) Q
      else LeavesJ C T R i o a w (a.put o.dst undef) w) 0 l)
    (hfin : ∀ a w, C a w → Base a → (∀ i, i < l.length → R i a w) → Q .normal a w) : (Code.region id l.toArray true).wp P Q a w := by
  have hp := List.all_eq_true.1 hpl
  refine wp_region_any hm (wpAny_facts2J (S := fun j => S.getD j []) (Base := Base) (C := C) (T := T) (R := R) ?_ ?_ hext hbase.all
    (fun i o ho a w h1 h2 h3 => ?_)
    (fun a w h1 h2 h3 => hfin a w h1 h2 fun i hi => h3 i (by simpa using hi)) _ _ _ _ ?_ (by simp) hC hB ?_)
  · intro i o ho e he hb
    have ho' : l[i]? = some o := by simpa using ho
    have h1 := hp i (List.mem_range.2 (List.getElem?_eq_some_iff.1 ho').1)
    simp only [ho', Bool.and_eq_true] at h1
    have h2 := (Array.all_eq_true_iff_forall_mem.1 h1.1) e he
    simpa [hb] using h2
  · intro i j o o' ho ho' hne hno d hd
    have hi : l[i]? = some o := by simpa using ho
    have hj : l[j]? = some o' := by simpa using ho'
    have h1 := hp i (List.mem_range.2 (List.getElem?_eq_some_iff.1 hi).1)
    simp only [hi, hd, Bool.and_eq_true] at h1
    have h2 := List.all_eq_true.1 h1.2 j (List.mem_range.2 (List.getElem?_eq_some_iff.1 hj).1)
    simp only [hj, Bool.or_eq_true, beq_iff_eq] at h2
    rcases h2 with h2 | h2 | h2
    · exact absurd h2 hne
    · obtain ⟨k, hk, hb⟩ := Array.any_eq_true.1 h2
      obtain ⟨e, he⟩ : ∃ e, e = o'.after[k] := ⟨_, rfl⟩
      rw [← he] at hb
      have he : e ∈ o'.after := by rw [he]; exact Array.getElem_mem hk
      simp only [Bool.and_eq_true, beq_iff_eq] at hb
      exact absurd hb.2 (hno e he hb.1)
    · intro hm
      simp at h2
      exact h2 hm
  · have h4 := hops.all i o ho a w h1 h2 h3
    unfold wpOp
    simp only [ho]
    by_cases hw : Region.wanted o (yielded l.toArray a.tmps) = true
    · rw [if_pos hw] at h4 ⊢
      exact Or.inl h4
    · rw [if_neg hw] at h4 ⊢
      exact h4
  · unfold still
    exact Nat.le_trans (List.length_filter_le _ _) (by simp)
  · intro i hi h
    have hi' : i < l.length := by simpa using hi
    simp [Array.getD] at h
    omega

end
end Go.Proofs.Ytgnjknboahcmgaa
