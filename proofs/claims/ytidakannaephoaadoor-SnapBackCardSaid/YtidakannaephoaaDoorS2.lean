/- Texts of one claim, merged: Reg, RcM, ShM, ShR1, TagR, RcR, ShR2, ShR3, ShB, ShS, SnB, GeR1, GeR2, Inv6. -/
import Derived.Test.YtidakannaephoaaDoorS1
import Derived.Laws.StructEq
import Derived.Deep.MidRow
import Derived.OwnWalk
import Derived.Deep.RegionHeld3
import Derived.Deep.WholeRow
import Derived.Deep.DeepCutAuto
import Derived.Deep.CutBlock
import Derived.Deep.QuietTactic
import Derived.BigQuiet
import Derived.LoopN

/- Facts of a drawn region's operations: a value in a slot each, or a fact of one's own. -/
namespace Go.Proofs.YtidakannaephoaaDoor
open Go.RowKit

/-- operation j has left this value in this slot; where the list says nothing: Sp -/
def RV (vs : List (Option (Tmp × Value))) (Sp : Nat → Act → World → Prop) (j : Nat) (a : Act) (w : World) : Prop :=
  match vs[j]? with
  | some (some (d, v)) => a.tmps.getD d undef = v
  | some none => Sp j a w
  | none => True
/-- the slots that a fact looks at -/
def SV (vs : List (Option (Tmp × Value))) (sp : List Tmp) : List (List Tmp) := vs.map fun o => match o with
  | some (d, _) => [d]
  | none => sp
theorem RV.ext {vs : List (Option (Tmp × Value))} {sp : List Tmp} {Sp : Nat → Act → World → Prop} {T : World → World → Prop}
    (hsp : ∀ j a a' w w', Sp j a w → (∀ d ∈ sp, a'.tmps.getD d undef = a.tmps.getD d undef) → T w w' → Sp j a' w') :
    ∀ j a a' w w', RV vs Sp j a w → (∀ s ∈ (SV vs sp).getD j [], a'.tmps.getD s undef = a.tmps.getD s undef) → T w w' → RV vs Sp j a' w' := by
  intro j a a' w w' h hd hT
  unfold RV at *
  rw [List.getD_eq_getElem?_getD] at hd
  cases hj : vs[j]? with
  | none => trivial
  | some o =>
    rw [hj] at h
    cases o with
    | none => exact hsp j a a' w w' h (fun d hm => hd d (by simp [SV, hj]; exact hm)) hT
    | some p => exact (hd p.1 (by simp [SV, hj])).trans h

/-- a world goes on: nothing that was there turns -/
def Goes (w w' : World) : Prop := Below w.heap.size w w'
theorem Goes.refl (w : World) : Goes w w := Below.refl _ _

end Go.Proofs.YtidakannaephoaaDoor

/- Records and their bytes: what the document asks of May, Put and Take, and what follows from it. -/
namespace Go.Proofs.YtidakannaephoaaDoor
set_option maxRecDepth 100000
open Go.RowKit

/-- a record's cells -/
def ra (k a b : Int) : Array Value := #[.int .i64 k, .int .i64 a, .int .i64 b]
/-- a record that may be -/
def MayR (k a b : Int) : Prop := ((k = 1 ∨ k = 2) ∧ 0 ≤ a ∧ a ≤ 4096 ∧ 0 ≤ b ∧ b ≤ 281474976710655) ∨ (k = 3 ∧ 0 ≤ a ∧ a ≤ 63 ∧ 1 ≤ b ∧ b ≤ 4294967295) ∨ (k = 4 ∧ 0 ≤ a ∧ a ≤ 63 ∧ 1 ≤ b ∧ b ≤ 2)
instance (k a b : Int) : Decidable (MayR k a b) := by unfold MayR; infer_instance
def kR (s : ByteArray) : Int := numS (s.extract 0 1)
def aR (s : ByteArray) : Int := numS (s.extract 1 3)
def bR (s : ByteArray) : Int := numS (s.extract 3 9)
/-- a text that is a record's bytes -/
def OkR (s : ByteArray) : Prop := s.size = 9 ∧ MayR (kR s) (aR s) (bR s)
instance (s : ByteArray) : Decidable (OkR s) := by unfold OkR; infer_instance
theorem byteT_get9 (s : ByteArray) (i : Nat) (h : i < s.size) : ((s[i].toNat : Nat) : Int) = byteT s i := by
  unfold byteT
  have : s.data.toList.getD i 0 = s[i] := by simp [List.getD, h]; rfl
  rw [this]
end Go.Proofs.YtidakannaephoaaDoor

/- Pages of records: what the document asks of Hold, Pack and Unpack. -/
namespace Go.Proofs.YtidakannaephoaaDoor
set_option maxRecDepth 100000
open Go.RowKit

/-- a record -/
structure Rc where
  k : Int
  a : Int
  b : Int
deriving DecidableEq
def Rc.cells (x : Rc) : List Value := [.int .i64 x.k, .int .i64 x.a, .int .i64 x.b]
theorem Rc.arr (x : Rc) : x.cells.toArray = ra x.k x.a x.b := rfl
def MayX (x : Rc) : Prop := MayR x.k x.a x.b
instance (x : Rc) : Decidable (MayX x) := by unfold MayX; infer_instance
/-- a slice of records, wherever it lies -/
def XsAt (w : World) (oa : Option Addr) (l : List Rc) : Prop := l ≠ [] → ∃ b off, oa = some ⟨b, off, none⟩ ∧ b < w.heap.size ∧ ∀ i (hi : i < l.length), w.rangeAt b (off + i * 3) (l[i].cells)
theorem XsAt.below {w w' : World} {oa : Option Addr} {l : List Rc} (h : XsAt w oa l) (hb : Below w.heap.size w w') : XsAt w' oa l := by
  intro hl
  obtain ⟨b, off, ho, hlt, hc⟩ := h hl
  exact ⟨b, off, ho, Nat.lt_of_lt_of_le hlt hb.size, fun i hi j v hj => by rw [World.cell?_of_block (w := w) (hb.block b hlt)]; exact hc i hi j v hj⟩
theorem XsAt.nil (w : World) (oa : Option Addr) : XsAt w oa [] := fun h => absurd rfl h

/-- how many records a page of n bytes holds -/
def holdN (n : Int) : Nat := if 16 ≤ n ∧ n ≤ 256 then ((n - 1) / 9).toNat else 0
/-- the text of the i-th record of a page -/
def secT (s : ByteArray) (i : Nat) : ByteArray := s.extract (1 + 9 * i) (10 + 9 * i)
/-- a page that tells records -/
structure PageOk (s : ByteArray) : Prop where
  size : 16 ≤ (s.size : Int) ∧ (s.size : Int) ≤ 256
  many : 1 ≤ byteT s 0 ∧ byteT s 0 ≤ holdN s.size
  each : ∀ i : Nat, (i : Int) < byteT s 0 → OkR (secT s i)
  rest : ∀ i : Nat, 1 + 9 * byteT s 0 ≤ (i : Int) → i < s.size → byteT s i = 0
end Go.Proofs.YtidakannaephoaaDoor

/- The reference of layer 12, walked: Hold. -/
namespace Go.Proofs.YtidakannaephoaaDoor
set_option maxRecDepth 100000
open Go.RowKit

end Go.Proofs.YtidakannaephoaaDoor

/- The reference of layer 4, walked: May, Number, Encode, Of, Decode. -/
namespace Go.Proofs.YtidakannaephoaaDoor
open Go.RowKit

/-- a tag's value -/
def tv (k l q e : Int) : Value := .agg #[.int .i64 k, .int .i64 l, .int .i64 q, .int .i64 e]
def NumPost (v : Int) (n : Nat) (w : World) (r : Ending) (w' : World) : Prop := r = .returned (.string (leS v n)) ∧ Below w.heap.size w w'
theorem rtag_number (v : Int) (n : Nat) (w : World) (h1 : 1 ≤ n) (h2 : n ≤ 8) (v0 : 0 ≤ v) (v1 : v < p2 (8 * n)) (v2 : v ≤ 9223372036854775807) :
    Calls Tryd.prog 23 #[.int .i64 v, .int .i64 n] w (NumPost v n w) := by
  have HV := Lib.hid v1
  clear v1
  go_enter Tryd.func23, Tryd.ntmps23
  go_wp2_with fail
  refine (rput_fit v n _ h1 h2 v0 HV.out).mono ?_
  rintro r w1 ⟨rfl, hb1⟩
  have HB1 := Lib.hid hb1
  clear hb1
  go_wp2_with fail
  go_ret
  exact ⟨rfl, HB1.out⟩

theorem rtag_of (s : ByteArray) (w : World) (h1 : 1 ≤ s.size) (h2 : s.size ≤ 6) :
    Calls Tryd.prog 26 #[.string s] w fun r w' => r = .returned (.int .i64 (numS s)) ∧ w = w' := by
  have hn : 0 ≤ numS s ∧ numS s < 9223372036854775807 := by
    have h := numTo_bd s s.size (Nat.le_refl _)
    have h3 : p2 (8 * s.size) ≤ p2 48 := p2_le (by omega)
    have h4 : p2 48 = 281474976710656 := by decide
    unfold numS; omega
  obtain ⟨x, hx⟩ : ∃ x, numS s = x := ⟨_, rfl⟩
  have HX := Lib.hid hx
  rw [hx] at hn ⊢
  clear hx
  go_enter Tryd.func26, Tryd.ntmps26
  go_wp2_with fail
  refine (rget_yes s _ h1 (by omega)).mono ?_
  rintro r w1 ⟨rfl, rfl⟩
  rw [HX.out]
  go_wp2_with fail
  go_ret
  exact ⟨rfl, rfl⟩

/-- the tag's copy lies in this block, and nothing below has turned -/
def KT (k l q e : Int) (w w' : World) : Prop := w'.cell? ⟨w.heap.size, 0, none⟩ = some (.int .i64 k) ∧ w'.cell? ⟨w.heap.size, 1, none⟩ = some (.int .i64 l) ∧ w'.cell? ⟨w.heap.size, 2, none⟩ = some (.int .i64 q) ∧ w'.cell? ⟨w.heap.size, 3, none⟩ = some (.int .i64 e) ∧ Below w.heap.size w w'
theorem KT.first (k l q e : Int) (w : World) (ty : TypeId) : KT k l q e w (w.alloc (.cells #[.int .i64 k, .int .i64 l, .int .i64 q, .int .i64 e] ty)) :=
  ⟨by rw [World.cell?_alloc_new]; rfl, by rw [World.cell?_alloc_new]; rfl, by rw [World.cell?_alloc_new]; rfl, by rw [World.cell?_alloc_new]; rfl, (Below.refl _ _).alloc (Nat.le_refl _) _⟩
theorem KT.drew {k l q e : Int} {w w' : World} (h : KT k l q e w w') : KT k l q e w w'.drew := ⟨h.1, h.2.1, h.2.2.1, h.2.2.2.1, h.2.2.2.2.drew⟩
theorem KT.call {k l q e : Int} {w w1 w2 : World} (h : KT k l q e w w1) (hb : Below w1.heap.size w1 w2) : KT k l q e w w2 :=
  ⟨(hb.cell (cell_lt h.1)).trans h.1, (hb.cell (cell_lt h.2.1)).trans h.2.1, (hb.cell (cell_lt h.2.2.1)).trans h.2.2.1, (hb.cell (cell_lt h.2.2.2.1)).trans h.2.2.2.1, h.2.2.2.2.trans (hb.mono h.2.2.2.2.size)⟩
theorem KT.alloc {k l q e : Int} {w w1 : World} (h : KT k l q e w w1) (o : Obj) : KT k l q e w (w1.alloc o) := h.call ((Below.refl _ _).alloc (Nat.le_refl _) _)

end Go.Proofs.YtidakannaephoaaDoor

/- The reference of layer 11, walked: May, Put, Take. -/
namespace Go.Proofs.YtidakannaephoaaDoor
set_option maxRecDepth 100000
open Go.RowKit

/-- the frame while the region PR runs -/
def BasePR (B : Nat) (a : Act) : Prop := ∃ u : Nat → Value, a = ⟨#[u 0, .pointer (some ⟨B, 0, none⟩), u 2, u 3, u 4, u 5, u 6, u 7, u 8, u 9, u 10, u 11, u 12, u 13, u 14, u 15, u 16, u 17], []⟩
theorem BasePR.of {B : Nat} (arr : Array Value) (h : arr = #[arr.getD 0 undef, .pointer (some ⟨B, 0, none⟩), arr.getD 2 undef, arr.getD 3 undef, arr.getD 4 undef, arr.getD 5 undef, arr.getD 6 undef, arr.getD 7 undef, arr.getD 8 undef, arr.getD 9 undef, arr.getD 10 undef, arr.getD 11 undef, arr.getD 12 undef, arr.getD 13 undef, arr.getD 14 undef, arr.getD 15 undef, arr.getD 16 undef, arr.getD 17 undef]) : BasePR B ⟨arr, []⟩ := ⟨fun i => arr.getD i undef, by rw [← h]⟩
theorem BasePR.put7 {B : Nat} (a : Act) (v : Value) (h : BasePR B a) : BasePR B (a.put (some 7) v) := by
  obtain ⟨u, rfl⟩ := h
  exact ⟨fun i => if i = 7 then v else u i, by kernel_rfl⟩
theorem BasePR.put8 {B : Nat} (a : Act) (v : Value) (h : BasePR B a) : BasePR B (a.put (some 8) v) := by
  obtain ⟨u, rfl⟩ := h
  exact ⟨fun i => if i = 8 then v else u i, by kernel_rfl⟩
theorem BasePR.put9 {B : Nat} (a : Act) (v : Value) (h : BasePR B a) : BasePR B (a.put (some 9) v) := by
  obtain ⟨u, rfl⟩ := h
  exact ⟨fun i => if i = 9 then v else u i, by kernel_rfl⟩
theorem BasePR.put10 {B : Nat} (a : Act) (v : Value) (h : BasePR B a) : BasePR B (a.put (some 10) v) := by
  obtain ⟨u, rfl⟩ := h
  exact ⟨fun i => if i = 10 then v else u i, by kernel_rfl⟩
theorem BasePR.put11 {B : Nat} (a : Act) (v : Value) (h : BasePR B a) : BasePR B (a.put (some 11) v) := by
  obtain ⟨u, rfl⟩ := h
  exact ⟨fun i => if i = 11 then v else u i, by kernel_rfl⟩
theorem BasePR.put12 {B : Nat} (a : Act) (v : Value) (h : BasePR B a) : BasePR B (a.put (some 12) v) := by
  obtain ⟨u, rfl⟩ := h
  exact ⟨fun i => if i = 12 then v else u i, by kernel_rfl⟩
theorem BasePR.put13 {B : Nat} (a : Act) (v : Value) (h : BasePR B a) : BasePR B (a.put (some 13) v) := by
  obtain ⟨u, rfl⟩ := h
  exact ⟨fun i => if i = 13 then v else u i, by kernel_rfl⟩
theorem BasePR.put14 {B : Nat} (a : Act) (v : Value) (h : BasePR B a) : BasePR B (a.put (some 14) v) := by
  obtain ⟨u, rfl⟩ := h
  exact ⟨fun i => if i = 14 then v else u i, by kernel_rfl⟩
theorem BasePR.put15 {B : Nat} (a : Act) (v : Value) (h : BasePR B a) : BasePR B (a.put (some 15) v) := by
  obtain ⟨u, rfl⟩ := h
  exact ⟨fun i => if i = 15 then v else u i, by kernel_rfl⟩
theorem BasePR.put16 {B : Nat} (a : Act) (v : Value) (h : BasePR B a) : BasePR B (a.put (some 16) v) := by
  obtain ⟨u, rfl⟩ := h
  exact ⟨fun i => if i = 16 then v else u i, by kernel_rfl⟩
theorem BasePR.put17 {B : Nat} (a : Act) (v : Value) (h : BasePR B a) : BasePR B (a.put (some 17) v) := by
  obtain ⟨u, rfl⟩ := h
  exact ⟨fun i => if i = 17 then v else u i, by kernel_rfl⟩
theorem BasePR.put2 {B : Nat} (a : Act) (v : Value) (h : BasePR B a) : BasePR B (a.put (some 2) v) := by
  obtain ⟨u, rfl⟩ := h
  exact ⟨fun i => if i = 2 then v else u i, by kernel_rfl⟩
theorem BasePR.put3 {B : Nat} (a : Act) (v : Value) (h : BasePR B a) : BasePR B (a.put (some 3) v) := by
  obtain ⟨u, rfl⟩ := h
  exact ⟨fun i => if i = 3 then v else u i, by kernel_rfl⟩
/-- the frame while the region TR runs -/
def BaseTR (s : ByteArray) (B : Nat) (a : Act) : Prop := ∃ u : Nat → Value, a = ⟨#[.string s, u 1, .pointer (some ⟨B, 0, none⟩), u 3, u 4, u 5, u 6, u 7, u 8, u 9, u 10, u 11, u 12, u 13, u 14, u 15, u 16, u 17, u 18, u 19, u 20, u 21, u 22, u 23], []⟩
theorem BaseTR.of {s : ByteArray} {B : Nat} (arr : Array Value) (h : arr = #[.string s, arr.getD 1 undef, .pointer (some ⟨B, 0, none⟩), arr.getD 3 undef, arr.getD 4 undef, arr.getD 5 undef, arr.getD 6 undef, arr.getD 7 undef, arr.getD 8 undef, arr.getD 9 undef, arr.getD 10 undef, arr.getD 11 undef, arr.getD 12 undef, arr.getD 13 undef, arr.getD 14 undef, arr.getD 15 undef, arr.getD 16 undef, arr.getD 17 undef, arr.getD 18 undef, arr.getD 19 undef, arr.getD 20 undef, arr.getD 21 undef, arr.getD 22 undef, arr.getD 23 undef]) : BaseTR s B ⟨arr, []⟩ := ⟨fun i => arr.getD i undef, by rw [← h]⟩
theorem BaseTR.put9 {s : ByteArray} {B : Nat} (a : Act) (v : Value) (h : BaseTR s B a) : BaseTR s B (a.put (some 9) v) := by
  obtain ⟨u, rfl⟩ := h
  exact ⟨fun i => if i = 9 then v else u i, by kernel_rfl⟩
theorem BaseTR.put10 {s : ByteArray} {B : Nat} (a : Act) (v : Value) (h : BaseTR s B a) : BaseTR s B (a.put (some 10) v) := by
  obtain ⟨u, rfl⟩ := h
  exact ⟨fun i => if i = 10 then v else u i, by kernel_rfl⟩
theorem BaseTR.put11 {s : ByteArray} {B : Nat} (a : Act) (v : Value) (h : BaseTR s B a) : BaseTR s B (a.put (some 11) v) := by
  obtain ⟨u, rfl⟩ := h
  exact ⟨fun i => if i = 11 then v else u i, by kernel_rfl⟩
theorem BaseTR.put12 {s : ByteArray} {B : Nat} (a : Act) (v : Value) (h : BaseTR s B a) : BaseTR s B (a.put (some 12) v) := by
  obtain ⟨u, rfl⟩ := h
  exact ⟨fun i => if i = 12 then v else u i, by kernel_rfl⟩
theorem BaseTR.put13 {s : ByteArray} {B : Nat} (a : Act) (v : Value) (h : BaseTR s B a) : BaseTR s B (a.put (some 13) v) := by
  obtain ⟨u, rfl⟩ := h
  exact ⟨fun i => if i = 13 then v else u i, by kernel_rfl⟩
theorem BaseTR.put14 {s : ByteArray} {B : Nat} (a : Act) (v : Value) (h : BaseTR s B a) : BaseTR s B (a.put (some 14) v) := by
  obtain ⟨u, rfl⟩ := h
  exact ⟨fun i => if i = 14 then v else u i, by kernel_rfl⟩
theorem BaseTR.put15 {s : ByteArray} {B : Nat} (a : Act) (v : Value) (h : BaseTR s B a) : BaseTR s B (a.put (some 15) v) := by
  obtain ⟨u, rfl⟩ := h
  exact ⟨fun i => if i = 15 then v else u i, by kernel_rfl⟩
theorem BaseTR.put16 {s : ByteArray} {B : Nat} (a : Act) (v : Value) (h : BaseTR s B a) : BaseTR s B (a.put (some 16) v) := by
  obtain ⟨u, rfl⟩ := h
  exact ⟨fun i => if i = 16 then v else u i, by kernel_rfl⟩
theorem BaseTR.put17 {s : ByteArray} {B : Nat} (a : Act) (v : Value) (h : BaseTR s B a) : BaseTR s B (a.put (some 17) v) := by
  obtain ⟨u, rfl⟩ := h
  exact ⟨fun i => if i = 17 then v else u i, by kernel_rfl⟩
theorem BaseTR.put18 {s : ByteArray} {B : Nat} (a : Act) (v : Value) (h : BaseTR s B a) : BaseTR s B (a.put (some 18) v) := by
  obtain ⟨u, rfl⟩ := h
  exact ⟨fun i => if i = 18 then v else u i, by kernel_rfl⟩
theorem BaseTR.put4 {s : ByteArray} {B : Nat} (a : Act) (v : Value) (h : BaseTR s B a) : BaseTR s B (a.put (some 4) v) := by
  obtain ⟨u, rfl⟩ := h
  exact ⟨fun i => if i = 4 then v else u i, by kernel_rfl⟩

end Go.Proofs.YtidakannaephoaaDoor

/- The reference of layer 12, walked: Unpack. -/
namespace Go.Proofs.YtidakannaephoaaDoor
set_option maxRecDepth 100000
open Go.RowKit

theorem info_partsX {P : Program} {t : TypeId} {z : Option Value} {a b : Nat} (h : (P.info? t).map (fun i => (i.zero, i.size, i.bytes)) = some (z, a, b)) : ∃ i, P.info? t = some i ∧ i.zero = z ∧ i.size = a ∧ i.bytes = b := by
  cases hi : P.info? t with
  | none => rw [hi] at h; cases h
  | some i =>
    rw [hi] at h
    simp only [Option.map_some, Option.some.injEq, Prod.mk.injEq] at h
    exact ⟨i, rfl, h.1, h.2.1, h.2.2⟩
theorem cells_newX (w : World) (cs : Array Value) (t : TypeId) : ∀ (j : Nat) (u : Value), cs.toList[j]? = some u → (w.alloc (.cells cs t)).cell? ((⟨w.heap.size, 0, none⟩ : Addr).add j) = some u := by
  intro j u hu
  have h := (Blk.new w cs t).cell j
  have e : ((⟨w.heap.size, 0, none⟩ : Addr).add j) = ⟨w.heap.size, j, none⟩ := by cases j <;> simp [Addr.add]
  rw [e, h]
  simpa using hu
theorem own_belowX {wr w1 : World} {B n : Nat} {v : Value} {xs : List Value} {E : TypeId} {o : Obj} {z : Nat} (hown : wr.ownsRow B E z v n xs) (hB : B ≤ wr.heap.size) (hgrow : (wr.alloc o).grownBy w1 v.ownBlock) : Below B wr w1 := by
  refine Below.grown (row := v.ownBlock) ((Below.refl _ _).alloc hB _) hgrow (by simp; omega) ?_
  intro g hg
  exact (hown.lt g hg).1

theorem ownsRow_afterX {W W' : World} {B : Nat} {e : TypeId} {size : Nat} {v : Value} {n : Nat} {xs : List Value} (h : W.ownsRow B e size v n xs) (hb : Below W.heap.size W W') : W'.ownsRow B e size v n xs := by
  refine ⟨h.1, ?_⟩
  rcases h.2 with ⟨rfl, h0⟩ | ⟨g, cap, cur, rfl, hbg, hg, h1⟩
  · exact .inl ⟨rfl, h0⟩
  · exact .inr ⟨g, cap, cur, rfl, hbg, (hb.block g (Array.getElem?_eq_some_iff.1 hg).1).trans hg, h1⟩
end Go.Proofs.YtidakannaephoaaDoor

/- The reference of layer 12, walked: Pack. -/
namespace Go.Proofs.YtidakannaephoaaDoor
set_option maxRecDepth 100000
open Go.RowKit

/-- a page of n bytes that holds these records -/
def padT (s : ByteArray) (j : Nat) : ByteArray := ⟨(bs s ++ List.replicate j 0).toArray⟩
theorem padT_zero (s : ByteArray) : padT s 0 = s := by apply bytes_eq; simp [padT, bs]
theorem padT_size (s : ByteArray) (j : Nat) : (padT s j).size = s.size + j := by show (bs s ++ List.replicate j 0).length = _; rw [List.length_append, bs_length, List.length_replicate]
theorem padT_step (s : ByteArray) (j : Nat) : padT s (j + 1) = padT s j ++ ⟨#[0]⟩ := by
  apply bytes_eq
  rw [ByteArray.data_append, Array.toList_append]
  show bs s ++ List.replicate (j + 1) 0 = (bs s ++ List.replicate j 0) ++ [0]
  rw [List.replicate_succ', List.append_assoc]
def strV (l : List ByteArray) : List Value := l.map Value.string

theorem conv_one (c : Int) (w : World) : Sem.run Tryd.prog (convert 46 9 (.slice (some ⟨w.heap.size, 0, none⟩) 1 1)) (w.alloc (.cells #[.int .u8 c] 5)) = .ok (.string ⟨#[UInt8.ofNat c.toNat]⟩) (w.alloc (.cells #[.int .u8 c] 5)) := by
  have h : BytesAt (w.alloc (.cells #[.int .u8 c] 5)) w.heap.size [c] := by
    intro i hi
    obtain rfl : i = 0 := by simpa using hi
    rw [World.cell?_alloc_new]; rfl
  rw [h.conv Tryd.underlying46 Tryd.underlying5 Tryd.underlying9 1 1 rfl]
  rfl

theorem infoStr : (Tryd.prog.info? 9).map (fun i => (i.zero, i.size, i.bytes)) = some (some (.string ByteArray.empty), 1, 16) := by kernel_rfl
theorem strV_snoc (f : Nat → ByteArray) (p : Nat) : strV ((List.range (p + 1)).map f) = strV ((List.range p).map f) ++ [.string (f p)] := by
  rw [List.range_succ, List.map_append]; unfold strV; rw [List.map_append]; rfl

/-- the size of a string that is a value -/
def szV : Value → Nat
  | .string s => s.size
  | _ => 0

end Go.Proofs.YtidakannaephoaaDoor

/- The book's comparisons of pages and of records. -/
namespace Go.Proofs.YtidakannaephoaaDoor
set_option maxRecDepth 100000
open Go.RowKit

theorem below_drewX {B : Nat} {w wr : World} (h : Below B w wr) (q : Nat) : Below B w (wr.drewN q) := ⟨h.os, h.tape, h.output, h.size, h.block⟩
theorem cell_of_rowX {w : World} {B n z : Nat} {v : Value} {xs : List Value} {e : TypeId} {g cap : Nat} (h : w.ownsRow B e z v n xs) (hv : v = .slice (some ⟨g, 0, none⟩) n cap) (j : Nat) (u : Value) (hj : xs[j]? = some u) : w.cell? ⟨g, j, none⟩ = some u := by
  have h1 := h.cells (g := g) (by rw [hv]; rfl) j u hj
  cases j with
  | zero => simpa [Addr.add] using h1
  | succ k => simpa [Addr.add] using h1

/-- a slice of texts, wherever it lies -/
def TsAt (w : World) (v : Value) (l : List ByteArray) : Prop := ∃ (a : Option Addr) (cap : Nat), v = .slice a l.length cap ∧ ∀ k (hk : k < l.length), ∃ g o, a = some ⟨g, o, none⟩ ∧ w.cell? ⟨g, o + k, none⟩ = some (.string l[k])
theorem TsAt.below {w w' : World} {v : Value} {l : List ByteArray} (h : TsAt w v l) (hb : Below w.heap.size w w') : TsAt w' v l := by
  obtain ⟨a, cap, hv, hk⟩ := h
  refine ⟨a, cap, hv, fun k h => ?_⟩
  obtain ⟨g, o, ha, h1⟩ := hk k h
  exact ⟨g, o, ha, (hb.cell (p := ⟨g, o + k, none⟩) (cell_lt h1)).trans h1⟩
theorem TsAt.own {w : World} {B n : Nat} {v : Value} {l : List ByteArray} (hn : n = l.length) (h : w.ownsRow B 9 1 v n (strV l)) : TsAt w v l := by
  subst hn
  have h0 := h
  rcases h.2 with ⟨hv, hz⟩ | ⟨g, cap, cur, hv, _⟩
  · exact ⟨none, 0, by rw [hv, hz], fun k hk => absurd hk (by omega)⟩
  · exact ⟨_, cap, hv, fun k hk => ⟨g, 0, rfl, by rw [Nat.zero_add]; exact cell_of_rowX h0 hv k _ (by unfold strV; simp [hk])⟩⟩

/-- a slice of records, as a value -/
def RsAt (w : World) (v : Value) (l : List Rc) : Prop := ∃ (a : Option Addr) (cap : Nat), v = .slice a l.length cap ∧ XsAt w a l
theorem RsAt.below {w w' : World} {v : Value} {l : List Rc} (h : RsAt w v l) (hb : Below w.heap.size w w') : RsAt w' v l := by
  obtain ⟨a, cap, hv, hk⟩ := h
  exact ⟨a, cap, hv, hk.below hb⟩
end Go.Proofs.YtidakannaephoaaDoor

/- The book's spoilers of pages and of records. -/
namespace Go.Proofs.YtidakannaephoaaDoor
set_option maxRecDepth 100000
open Go.RowKit

theorem grownX_setCell {w w' : World} {g : Nat} (h : w.grownBy w' (some g)) (p : Addr) (u : Value) (hp : p.block = g) : w.grownBy (w'.setCell p u) (some g) :=
  ⟨h.os, h.tape, h.output, by rw [World.size_setCell]; exact h.size, fun k hk hn => (Below.heap_setCell _ _ _ _ (fun e => hn (by rw [e, hp]))).trans (h.block k hk hn)⟩
theorem there_ownX {w : World} {B n z : Nat} {v : Value} {xs : List Value} {e : TypeId} {g cap : Nat} (h : w.ownsRow B e z v n xs) (hv : v = .slice (some ⟨g, 0, none⟩) n cap) : w.there g 0 (n * z) := by
  intro j hj
  have hx : j < xs.length := by rw [h.1]; exact hj
  have h1 := cell_of_rowX h hv j xs[j] (List.getElem?_eq_getElem hx)
  rw [Nat.zero_add]
  refine ⟨by rw [h1]; rfl, ?_⟩
  rcases h.2 with ⟨hv2, _⟩ | ⟨g2, cap2, cur, hv2, _, hg, _⟩
  · rw [hv] at hv2; cases hv2
  · rw [hv] at hv2; cases hv2
    simp [World.frozen?, hg]

theorem spoil_texts (w : World) (B n : Nat) (v : Value) (xs : List Value) (hz : n ≤ 1000000) (h : w.ownsRow B 9 1 v n xs) :
    Calls Tryd.prog 15 #[v] w fun e w' => e = .returned (.tuple #[]) ∧ w.grownBy w' v.ownBlock := by
  have h0 := h
  rcases h.2 with ⟨rfl, rfl⟩ | ⟨g, cap, cur, rfl, _⟩
  · clear h h0
    go_enter Tryd.func15, Tryd.ntmps15
    go_wp2
    refine wp_loop_rounds 1 ?_
    rw [rounds_succ]
    go_wp2
    refine bodyPost_end (results_none rfl _ _ _) rfl ?_
    exact ⟨rfl, ⟨rfl, rfl, rfl, Nat.le_refl _, fun _ _ _ => rfl⟩⟩
  · have HT : Hid (w.there g 0 (n * 1)) := there_ownX h0 rfl
    have HG0 : Hid (w.grownBy w (some g)) := ⟨rfl, rfl, rfl, Nat.le_refl _, fun _ _ _ => rfl⟩
    clear h h0
    show Calls Tryd.prog _ _ w fun e w' => e = .returned (.tuple #[]) ∧ w.grownBy w' (some g)
    go_enter Tryd.func15, Tryd.ntmps15
    go_wp2_with fail
    go_loopw [5] (fun i wr => ∃ k : Nat, k ≤ n ∧ i = .int .i64 k ∧ Hid (wr.there g 0 (n * 1)) ∧ Hid (w.grownBy wr (some g))) (fun i _ => n + 1 - (intOf i).toNat)
    case atStart => exact ⟨0, Nat.zero_le _, rfl, HT.out, HG0.out⟩
    case round =>
      obtain ⟨k, hk, rfl, HTR, HGR⟩ := hrel
      by_cases hlt : k < n
      · have hltz : (k : Int) < (n : Int) := by omega
        obtain ⟨hc, hf⟩ := HTR.out k (by omega)
        rw [Nat.zero_add] at hc hf
        obtain ⟨u, hu⟩ := Option.isSome_iff_exists.1 hc
        clear hc
        go_wp2_with fail
        refine ⟨⟨k + 1, by omega, by go_num, World.there_setCells HTR.out g k [_], grownX_setCell HGR.out _ _ rfl⟩, ?_⟩
        simp [intOf]; omega
      · obtain rfl : k = n := by omega
        have hltz : ¬ (k : Int) < (k : Int) := by omega
        clear hlt
        go_wp2_with fail
        refine bodyPost_end (results_none rfl _ _ _) rfl ?_
        exact ⟨rfl, HGR.out⟩

end Go.Proofs.YtidakannaephoaaDoor

/- The book's comparisons of numbers, of texts and of what is durable, whatever they are; the spoiler of numbers. -/
namespace Go.Proofs.YtidakannaephoaaDoor
set_option maxRecDepth 100000
open Go.RowKit

theorem prefix_eq {α : Type} {l l' : List α} (hlen : l.length = l'.length) (h : ∀ j (h1 : j < l.length) (h2 : j < l'.length), l[j] = l'[j]) : l = l' := List.ext_getElem hlen fun j h1 h2 => h j h1 h2

/-- two lists, as far as they have been held against one another -/
def SoFar {α : Type} (l l' : List α) (q : Bool) (k : Nat) : Prop := (q = true → ∀ j (h1 : j < l.length) (h2 : j < l'.length), j < k → l[j] = l'[j]) ∧ (q = false → l ≠ l')
theorem SoFar.zero {α : Type} (l l' : List α) : SoFar l l' true 0 := ⟨fun _ j _ _ hj => absurd hj (Nat.not_lt_zero _), fun h => by cases h⟩
theorem SoFar.yes {α : Type} {l l' : List α} {k : Nat} (h : SoFar l l' true k) (h1 : k < l.length) (h2 : k < l'.length) (he : l[k] = l'[k]) : SoFar l l' true (k + 1) :=
  ⟨fun _ j g1 g2 g3 => by
    rcases Nat.lt_or_ge j k with h5 | h5
    · exact h.1 rfl j g1 g2 h5
    · obtain rfl : j = k := by omega
      exact he, fun h => by cases h⟩
theorem SoFar.no {α : Type} {l l' : List α} {k : Nat} (h1 : k < l.length) (h2 : k < l'.length) (he : l[k] ≠ l'[k]) : SoFar l l' false (k + 1) :=
  ⟨(fun h => by cases h), fun _ h => he (by subst h; rfl)⟩

set_option maxHeartbeats 1000000 in
theorem book_ints (w : World) (u v : Value) (l l' : List Int) (hu : IvAt w u l) (hv : IvAt w v l') :
    Calls Tryd.prog 28 #[u, v] w fun e w' => e = .returned (.bool (decide (l = l'))) ∧ Below w.heap.size w w' := by
  obtain ⟨a, cap, rfl, hc, hs⟩ := hu
  obtain ⟨a', cap', rfl, hc', hs'⟩ := hv
  obtain ⟨n, hn⟩ : ∃ n, l.length = n := ⟨_, rfl⟩
  obtain ⟨n', hn'⟩ : ∃ n, l'.length = n := ⟨_, rfl⟩
  have hb : (n : Int) ≤ 9223372036854775807 ∧ (n' : Int) ≤ 9223372036854775807 := by unfold maxLen at hc hc'; omega
  have HS := Lib.hid hs
  have HS' := Lib.hid hs'
  have HN := Lib.hid hn
  have HN' := Lib.hid hn'
  rw [hn, hn']
  clear hs hs' hn hn' hc hc'
  by_cases hz : n = n'
  · subst hz
    go_enter Tryd.func28, Tryd.ntmps28
    go_wp2_with fail
    go_loopw [5, 6] (fun b i wr => ∃ (k : Nat) (q : Bool), k ≤ n ∧ i = .int .i64 k ∧ b = .bool q ∧ Hid (SoFar l l' q k) ∧ Hid (Below w.heap.size w wr)) (fun _ i _ => n + 1 - (intOf i).toNat)
    case atStart => exact ⟨0, true, Nat.zero_le _, rfl, rfl, SoFar.zero _ _, Below.refl _ _⟩
    case round =>
      obtain ⟨k, q, hk, rfl, rfl, HY, HB⟩ := hrel
      cases q
      · have HNE : Hid (decide (l = l') = false) := decide_eq_false (HY.out.2 rfl)
        clear HY
        go_wp2_with fail
        go_ret
        exact ⟨ret_bool HNE.out.symm, HB.out⟩
      · by_cases hlt : k < n
        · have hltz : (k : Int) < (n : Int) := by omega
          have hltd : decide ((k : Int) < (n : Int)) = true := decide_eq_true hltz
          have hkl : k < l.length := by have := HN.out; omega
          have hkl' : k < l'.length := by have := HN'.out; omega
          obtain ⟨g, o, rfl, hg, h1⟩ := HS.out (by intro h0; rw [h0] at hkl; exact absurd hkl (Nat.not_lt_zero _))
          obtain ⟨g', o', rfl, hg', h3⟩ := HS'.out (by intro h0; rw [h0] at hkl'; exact absurd hkl' (Nat.not_lt_zero _))
          have r1 := h1 k hkl
          have r3 := h3 k hkl'
          obtain ⟨x, hx⟩ : ∃ x, l[k] = x := ⟨_, rfl⟩
          obtain ⟨y, hy⟩ : ∃ y, l'[k] = y := ⟨_, rfl⟩
          rw [hx] at r1
          rw [hy] at r3
          have c1 := (HB.out.cell (p := ⟨g, o + k, none⟩) (cell_lt r1)).trans r1
          have c3 := (HB.out.cell (p := ⟨g', o' + k, none⟩) (cell_lt r3)).trans r3
          by_cases hxy : x = y
          · have HY2 : Hid (SoFar l l' true (k + 1)) := HY.out.yes hkl hkl' (by rw [hx, hy, hxy])
            have hxb : (x == y) = true := by simpa using hxy
            clear HY h1 h3 r1 r3 hx hy hg hg' hxy hkl hkl'
            go_wp2_with fail
            go_quiet (fail)
            go_wp2_with fail
            go_roundw
            case rel => exact ⟨k + 1, true, by omega, by go_num, rfl, HY2, below_drewX HB.out _⟩
            case measure => simp [intOf]; omega
          · have HY2 : Hid (SoFar l l' false (k + 1)) := SoFar.no hkl hkl' (by rw [hx, hy]; exact hxy)
            have hxb : (x == y) = false := by simpa using hxy
            clear HY h1 h3 r1 r3 hx hy hg hg' hxy hkl hkl'
            go_wp2_with fail
            go_quiet (fail)
            go_wp2_with fail
            go_roundw
            case rel => exact ⟨k + 1, false, by omega, by go_num, rfl, HY2, below_drewX HB.out _⟩
            case measure => simp [intOf]; omega
        · obtain rfl : k = n := by omega
          have hltz : ¬ (k : Int) < (k : Int) := by omega
          have hltd : decide ((k : Int) < (k : Int)) = false := decide_eq_false hltz
          have HE : Hid (decide (l = l') = true) := decide_eq_true (prefix_eq (HN.out.trans HN'.out.symm) fun j g1 g2 => HY.out.1 rfl j g1 g2 (by have := HN.out; omega))
          clear HY
          go_wp2_with fail
          go_ret
          exact ⟨ret_bool HE.out.symm, HB.out⟩
  · have hnb : ((n : Int) == (n' : Int)) = false := by simp; omega
    have HNE : Hid (decide (l = l') = false) := decide_eq_false (fun h => hz (by rw [← HN.out, ← HN'.out, h]))
    clear hz
    go_enter Tryd.func28, Tryd.ntmps28
    go_wp2_with fail
    go_loopw [5, 6] (fun b i wr => b = .bool false ∧ i = .int .i64 0 ∧ wr = w) (fun _ _ _ => 0)
    case atStart => exact ⟨rfl, rfl, rfl⟩
    case round =>
      obtain ⟨rfl, rfl, rfl⟩ := hrel
      go_wp2_with fail
      go_ret
      exact ⟨ret_bool HNE.out.symm, Below.refl _ _⟩

set_option maxHeartbeats 1000000 in
theorem book_textsG (w : World) (u v : Value) (l l' : List ByteArray) (hz : l.length ≤ 1000000 ∧ l'.length ≤ 1000000) (hu : TsAt w u l) (hv : TsAt w v l') :
    Calls Tryd.prog 13 #[u, v] w fun e w' => e = .returned (.bool (decide (l = l'))) ∧ Below w.heap.size w w' := by
  obtain ⟨a, cap, rfl, hs⟩ := hu
  obtain ⟨a', cap', rfl, hs'⟩ := hv
  obtain ⟨n, hn⟩ : ∃ n, l.length = n := ⟨_, rfl⟩
  obtain ⟨n', hn'⟩ : ∃ n, l'.length = n := ⟨_, rfl⟩
  have hb : (n : Int) ≤ 9223372036854775807 ∧ (n' : Int) ≤ 9223372036854775807 := by omega
  have HS := Lib.hid hs
  have HS' := Lib.hid hs'
  have HN := Lib.hid hn
  have HN' := Lib.hid hn'
  rw [hn, hn']
  clear hs hs' hn hn' hz
  by_cases hz : n = n'
  · subst hz
    go_enter Tryd.func13, Tryd.ntmps13
    go_wp2_with fail
    go_loopw [5, 6] (fun b i wr => ∃ (k : Nat) (q : Bool), k ≤ n ∧ i = .int .i64 k ∧ b = .bool q ∧ Hid (SoFar l l' q k) ∧ Hid (Below w.heap.size w wr)) (fun _ i _ => n + 1 - (intOf i).toNat)
    case atStart => exact ⟨0, true, Nat.zero_le _, rfl, rfl, SoFar.zero _ _, Below.refl _ _⟩
    case round =>
      obtain ⟨k, q, hk, rfl, rfl, HY, HB⟩ := hrel
      cases q
      · have HNE : Hid (decide (l = l') = false) := decide_eq_false (HY.out.2 rfl)
        clear HY
        go_wp2_with fail
        go_ret
        exact ⟨ret_bool HNE.out.symm, HB.out⟩
      · by_cases hlt : k < n
        · have hltz : (k : Int) < (n : Int) := by omega
          have hltd : decide ((k : Int) < (n : Int)) = true := decide_eq_true hltz
          have hkl : k < l.length := by have := HN.out; omega
          have hkl' : k < l'.length := by have := HN'.out; omega
          obtain ⟨g, o, rfl, r1⟩ := HS.out k hkl
          obtain ⟨g', o', rfl, r3⟩ := HS'.out k hkl'
          obtain ⟨x, hx⟩ : ∃ x, l[k] = x := ⟨_, rfl⟩
          obtain ⟨y, hy⟩ : ∃ y, l'[k] = y := ⟨_, rfl⟩
          rw [hx] at r1
          rw [hy] at r3
          have c1 := (HB.out.cell (p := ⟨g, o + k, none⟩) (cell_lt r1)).trans r1
          have c3 := (HB.out.cell (p := ⟨g', o' + k, none⟩) (cell_lt r3)).trans r3
          by_cases hxy : x = y
          · have HY2 : Hid (SoFar l l' true (k + 1)) := HY.out.yes hkl hkl' (by rw [hx, hy, hxy])
            have hxb : (x.toList == y.toList) = true := by rw [hxy]; simp
            clear HY r1 r3 hx hy hxy hkl hkl'
            go_wp2_with fail
            go_quiet (fail)
            go_wp2_with fail
            go_roundw
            case rel => exact ⟨k + 1, true, by omega, by go_num, rfl, HY2, below_drewX HB.out _⟩
            case measure => simp [intOf]; omega
          · have HY2 : Hid (SoFar l l' false (k + 1)) := SoFar.no hkl hkl' (by rw [hx, hy]; exact hxy)
            have hxb : (x.toList == y.toList) = false := by rw [ByteArray.toList_eq, ByteArray.toList_eq]; simp; exact fun h => hxy (bytes_eq (congrArg Array.toList h))
            clear HY r1 r3 hx hy hxy hkl hkl'
            go_wp2_with fail
            go_quiet (fail)
            go_wp2_with fail
            go_roundw
            case rel => exact ⟨k + 1, false, by omega, by go_num, rfl, HY2, below_drewX HB.out _⟩
            case measure => simp [intOf]; omega
        · obtain rfl : k = n := by omega
          have hltz : ¬ (k : Int) < (k : Int) := by omega
          have hltd : decide ((k : Int) < (k : Int)) = false := decide_eq_false hltz
          have HE : Hid (decide (l = l') = true) := decide_eq_true (prefix_eq (HN.out.trans HN'.out.symm) fun j g1 g2 => HY.out.1 rfl j g1 g2 (by have := HN.out; omega))
          clear HY
          go_wp2_with fail
          go_ret
          exact ⟨ret_bool HE.out.symm, HB.out⟩
  · have hnb : ((n : Int) == (n' : Int)) = false := by simp; omega
    have HNE : Hid (decide (l = l') = false) := decide_eq_false (fun h => hz (by rw [← HN.out, ← HN'.out, h]))
    clear hz
    go_enter Tryd.func13, Tryd.ntmps13
    go_wp2_with fail
    go_loopw [5, 6] (fun b i wr => b = .bool false ∧ i = .int .i64 0 ∧ wr = w) (fun _ _ _ => 0)
    case atStart => exact ⟨rfl, rfl, rfl⟩
    case round =>
      obtain ⟨rfl, rfl, rfl⟩ := hrel
      go_wp2_with fail
      go_ret
      exact ⟨ret_bool HNE.out.symm, Below.refl _ _⟩

theorem sn_ext (x y : Sn) : x = y ↔ x.f = y.f ∧ x.c = y.c ∧ x.s = y.s ∧ x.t = y.t := by
  cases x; cases y; simp
instance : DecidableEq Sn := fun x y => decidable_of_iff _ (sn_ext x y).symm
theorem decide_sn (x y : Sn) : decide (x = y) = (decide (x.f = y.f) && (decide (x.c = y.c) && (decide (x.s = y.s) && decide (x.t = y.t)))) := by
  rw [Bool.eq_iff_iff]
  simp [sn_ext]

set_option maxHeartbeats 1000000 in
theorem book_state (w : World) (A A' : Array Value) (x y : Sn) (hA : SnAt w A x) (hA' : SnAt w A' y) :
    Calls Tryd.prog 14 #[.agg A, .agg A'] w fun e w' => e = .returned (.bool (decide (x = y))) ∧ Below w.heap.size w w' := by
  rw [decide_sn]
  obtain ⟨vf, vc, vs, vt, rfl, h1, h2, h3, h4⟩ := hA
  obtain ⟨vf', vc', vs', vt', rfl, h1', h2', h3', h4'⟩ := hA'
  obtain ⟨w2, hw2⟩ : ∃ w2, (w.alloc (.cells #[vf, vc, vs, vt] 26)).alloc (.cells #[vf', vc', vs', vt'] 26) = w2 := ⟨_, rfl⟩
  have hb : Below w.heap.size w w2 := by rw [← hw2]; exact ((Below.refl _ _).alloc (Nat.le_refl _) _).alloc (by simp) _
  have k1 : Blk w2 w.heap.size #[vf, vc, vs, vt] 26 := by rw [← hw2]; exact (Blk.new _ _ _).alloc _
  have k2 : Blk w2 (w.heap.size + 1) #[vf', vc', vs', vt'] 26 := by
    rw [← hw2]
    have h := Blk.new (w.alloc (.cells #[vf, vc, vs, vt] 26)) #[vf', vc', vs', vt'] 26
    rwa [World.size_alloc] at h
  have HB := Lib.hid hb
  have K1 := Lib.hid k1
  have K2 := Lib.hid k2
  have H1 := Lib.hid (book_ints w2 vf vf' x.f y.f (h1.below hb) (h1'.below hb))
  have H2 : Hid (∀ w3, Below w2.heap.size w2 w3 → Calls Tryd.prog 28 #[vc, vc'] w3 fun e w' => e = .returned (.bool (decide (x.c = y.c))) ∧ Below w3.heap.size w3 w') := fun w3 hb3 => book_ints w3 vc vc' x.c y.c ((h2.below hb).below hb3) ((h2'.below hb).below hb3)
  have H3 : Hid (∀ w3, Below w2.heap.size w2 w3 → Calls Tryd.prog 28 #[vs, vs'] w3 fun e w' => e = .returned (.bool (decide (x.s = y.s))) ∧ Below w3.heap.size w3 w') := fun w3 hb3 => book_ints w3 vs vs' x.s y.s ((h3.below hb).below hb3) ((h3'.below hb).below hb3)
  have H4 : Hid (∀ w3, Below w2.heap.size w2 w3 → Calls Tryd.prog 28 #[vt, vt'] w3 fun e w' => e = .returned (.bool (decide (x.t = y.t))) ∧ Below w3.heap.size w3 w') := fun w3 hb3 => book_ints w3 vt vt' x.t y.t ((h4.below hb).below hb3) ((h4'.below hb).below hb3)
  obtain ⟨q1, hq1⟩ : ∃ q, decide (x.f = y.f) = q := ⟨_, rfl⟩
  obtain ⟨q2, hq2⟩ : ∃ q, decide (x.c = y.c) = q := ⟨_, rfl⟩
  obtain ⟨q3, hq3⟩ : ∃ q, decide (x.s = y.s) = q := ⟨_, rfl⟩
  obtain ⟨q4, hq4⟩ : ∃ q, decide (x.t = y.t) = q := ⟨_, rfl⟩
  rw [hq1, hq2, hq3, hq4]
  rw [hq1] at H1
  simp only [hq2] at H2
  simp only [hq3] at H3
  simp only [hq4] at H4
  have HC : Hid (∀ w3, Below w2.heap.size w2 w3 → (w3.cell? ⟨w.heap.size, 0, none⟩ = some vf ∧ w3.cell? ⟨w.heap.size, 1, none⟩ = some vc ∧ w3.cell? ⟨w.heap.size, 2, none⟩ = some vs ∧ w3.cell? ⟨w.heap.size, 3, none⟩ = some vt) ∧
      w3.cell? ⟨w.heap.size + 1, 0, none⟩ = some vf' ∧ w3.cell? ⟨w.heap.size + 1, 1, none⟩ = some vc' ∧ w3.cell? ⟨w.heap.size + 1, 2, none⟩ = some vs' ∧ w3.cell? ⟨w.heap.size + 1, 3, none⟩ = some vt') := fun w3 hb3 =>
    ⟨⟨(k1.after hb3).cell 0, (k1.after hb3).cell 1, (k1.after hb3).cell 2, (k1.after hb3).cell 3⟩, (k2.after hb3).cell 0, (k2.after hb3).cell 1, (k2.after hb3).cell 2, (k2.after hb3).cell 3⟩
  have HBW : Hid (∀ w3, Below w2.heap.size w2 w3 → Below w.heap.size w w3) := fun w3 hb3 => hb.trans (hb3.mono hb.size)
  clear h1 h2 h3 h4 h1' h2' h3' h4' hb k1 k2 hq1 hq2 hq3 hq4 K1 K2
  obtain ⟨⟨c0, c1, c2, c3⟩, d0, d1, d2, d3⟩ := HC.out w2 (Below.refl _ _)
  go_enter Tryd.func14, Tryd.ntmps14
  go_wp2_with fail
  refine H1.out.mono ?_
  rintro e w3 ⟨rfl, hb3⟩
  clear c0 c1 c2 c3 d0 d1 d2 d3
  obtain ⟨⟨_, c1, c2, c3⟩, _, d1, d2, d3⟩ := HC.out w3 hb3
  have HB3 := Lib.hid hb3
  clear hb3 H1
  cases q1
  · go_wp2_with fail
    go_ret
    exact ⟨rfl, HBW.out _ HB3.out⟩
  · go_wp2_with fail
    refine (H2.out w3 HB3.out).mono ?_
    rintro e w4 ⟨rfl, hb4⟩
    have hb4' := HB3.out.trans (hb4.mono HB3.out.size)
    clear c1 c2 c3 d1 d2 d3
    obtain ⟨⟨_, c1, c2, c3⟩, _, d1, d2, d3⟩ := HC.out w4 hb4'
    have HB4 := Lib.hid hb4'
    clear hb4 hb4' H2
    cases q2
    · go_wp2_with fail
      go_ret
      exact ⟨rfl, HBW.out _ HB4.out⟩
    · go_wp2_with fail
      refine (H3.out w4 HB4.out).mono ?_
      rintro e w5 ⟨rfl, hb5⟩
      have hb5' := HB4.out.trans (hb5.mono HB4.out.size)
      clear c1 c2 c3 d1 d2 d3
      obtain ⟨⟨_, c1, c2, c3⟩, _, d1, d2, d3⟩ := HC.out w5 hb5'
      have HB5 := Lib.hid hb5'
      clear hb5 hb5' H3
      cases q3
      · go_wp2_with fail
        go_ret
        exact ⟨rfl, HBW.out _ HB5.out⟩
      · go_wp2_with fail
        refine (H4.out w5 HB5.out).mono ?_
        rintro e w6 ⟨rfl, hb6⟩
        have hb6' := HB5.out.trans (hb6.mono HB5.out.size)
        have HB6 := Lib.hid hb6'
        clear hb6 hb6' H4
        go_wp2_with fail
        go_ret
        exact ⟨rfl, HBW.out _ HB6.out⟩

end Go.Proofs.YtidakannaephoaaDoor

/- The reference of layer 6, walked: Most, Snaps, Check. -/
namespace Go.Proofs.YtidakannaephoaaDoor
set_option maxRecDepth 100000
open Go.RowKit

theorem rge_most (b l y n s r : Int) (w : World) (h : PreG b l y n s r) :
    Calls Tryd.prog 38 #[.agg (gv b l y n s r)] w fun e w' => e = .returned (.int .i64 (mostG b l s)) ∧ Below w.heap.size w w' := by
  have hm := pre_most h
  obtain ⟨h1, h2, h3, h4, h5, h6, h7, h8, h9, h10, h11, h12, h13, h14⟩ := h
  have hq : (3 * l * (b - s - 6)).tdiv 2 = mostG b l s := by unfold mostG; exact Int.tdiv_eq_ediv_of_nonneg hm.1
  have hbd : 0 ≤ mostG b l s ∧ mostG b l s ≤ 6000 := by unfold mostG; omega
  obtain ⟨m, hme⟩ : ∃ m, mostG b l s = m := ⟨_, rfl⟩
  rw [hme] at hq hbd ⊢
  clear hme
  unfold gv
  go_enter Tryd.func38, Tryd.ntmps38
  go_wp2_with fail
  go_ret
  exact ⟨rfl, (Below.refl _ _).alloc (Nat.le_refl _) _⟩

set_option maxRecDepth 100000 in
theorem rge_snaps (b l y n s r : Int) (w : World) (h : PreG b l y n s r) :
    Calls Tryd.prog 25 #[.agg (gv b l y n s r)] w fun e w' => e = .returned (.int .i64 (snapsG b y n)) ∧ Below w.heap.size w w' := by
  have hbd := snaps_bd h
  obtain ⟨h1, h2, h3, h4, h5, h6, h7, h8, h9, h10, h11, h12, h13, h14⟩ := h
  have hit := fun k : Int => snaps_iff (b := b) (y := y) (n := n) (by omega) k
  obtain ⟨m, hme⟩ : ∃ m, snapsG b y n = m := ⟨_, rfl⟩
  rw [hme] at hbd ⊢
  have HIT : Hid (∀ k : Int, k * y < 6 * n + 10 * b ↔ k < m) := by intro k; rw [← hme]; exact hit k
  clear hme hit
  have hB := (Below.refl w.heap.size w).alloc (Nat.le_refl _) (.cells (gv b l y n s r) 23)
  have HB := Lib.hid hB
  clear hB
  unfold gv
  go_enter Tryd.func25, Tryd.ntmps25
  go_wp2_with fail
  go_loop [3] (fun i => ∃ k : Nat, (k : Int) ≤ m ∧ i = .int .i64 k) (fun i => (m.toNat - (intOf i).toNat))
  case atStart => exact ⟨0, by omega, rfl⟩
  case round =>
    obtain ⟨k, hk, rfl⟩ := hrel
    have hp := mul_bd (a := (k : Int)) (c := y) (A := 1600) (C := 256) (by omega) (by omega) (by omega) (by omega)
    have hi := HIT.out k
    by_cases hlt : (k : Int) < m
    · have hc := hi.2 hlt
      clear hi
      go_wp2_with fail
      go_round
      case rel => exact ⟨k + 1, by omega, by go_num⟩
      case measure => simp [intOf]; omega
    · have hc : ¬ (k : Int) * y < 6 * n + 10 * b := fun h => hlt (hi.1 h)
      clear hi
      go_wp2_with fail
      go_ret
      exact ⟨ret_int (by omega), HB.out⟩

end Go.Proofs.YtidakannaephoaaDoor

/- The reference of layer 6, walked: Check. -/
namespace Go.Proofs.YtidakannaephoaaDoor
set_option maxRecDepth 100000
open Go.RowKit

def FirstG (b l y : Int) : Prop := 8 ≤ b ∧ b ≤ 64 ∧ 6 ≤ l ∧ l ≤ 64 ∧ 16 ≤ y ∧ y ≤ 256 ∧ y % 8 = 0
def ChkT (b l y n s r : Int) (w : World) (e : Ending) (w' : World) : Prop := e = .returned (.int .i64 (chkG b l y n s r)) ∧ Below w.heap.size w w'
theorem chk_no {b l y n s r : Int} (h : ¬ OkG b l y n s r) : chkG b l y n s r = 60 := if_neg h
theorem chk_ok {b l y n s r : Int} (h : OkG b l y n s r) : chkG b l y n s r = 0 := if_pos h

set_option maxRecDepth 100000 in
theorem rge_check_first (b l y n s r : Int) (w : World) (h : ¬ FirstG b l y) : Calls Tryd.prog 22 #[.agg (gv b l y n s r)] w (ChkT b l y n s r w) := by
  have hno : ¬ OkG b l y n s r := fun ⟨⟨h1, h2, h3, h4, h5, h6, h7, _⟩, _⟩ => h ⟨h1, h2, h3, h4, h5, h6, h7⟩
  unfold ChkT
  rw [chk_no hno]
  have H := Lib.hid h
  clear h hno
  have HB := Lib.hid ((Below.refl w.heap.size w).alloc (Nat.le_refl _) (.cells (gv b l y n s r) 23))
  unfold gv at *
  go_enter Tryd.func22, Tryd.ntmps22
  go_wp2_with fail
  all_goals first
    | (go_ret; exact ⟨rfl, HB.out⟩)
    | (exfalso; apply H.out; have hc := ‹_ ∧ (y % 8 != 0) = false›; simp only [bne_eq_false_iff_eq] at hc; unfold FirstG; omega)

end Go.Proofs.YtidakannaephoaaDoor

/- Drawn regions in long frames: the frame told by what it differs in from the one with which the region began. -/
namespace Go.Proofs.YtidakannaephoaaDoor
open Go.RowKit

/-- a frame that differs from A in the slots from lo to hi alone -/
structure Near (A : Act) (lo hi : Nat) (a : Act) : Prop where
  size : a.tmps.size = A.tmps.size
  defers : a.defers = A.defers
  slot : ∀ j, ¬ (lo ≤ j ∧ j ≤ hi) → a.tmps.getD j undef = A.tmps.getD j undef
theorem Near.refl (A : Act) (lo hi : Nat) : Near A lo hi A := ⟨rfl, rfl, fun _ _ => rfl⟩
theorem Near.put {A a : Act} {lo hi d : Nat} {v : Value} (h : Near A lo hi a) (h1 : lo ≤ d) (h2 : d ≤ hi) : Near A lo hi (a.put (some d) v) :=
  ⟨by simp [Act.put, h.size], h.defers, fun j hj => by
    have hne : d ≠ j := fun e => hj (e ▸ ⟨h1, h2⟩)
    rw [← h.slot j hj]
    simp [Act.put, Array.getD_eq_getD_getElem?, Array.getElem?_setIfInBounds_ne hne]⟩
theorem put_at {t : Array Value} {d : Nat} {v : Value} (hs : d < t.size) : (t.setIfInBounds d v).getD d undef = v := by simp [Array.getD_eq_getD_getElem?, hs]
/-- a guard, read off the frame -/
theorem wanted_at {o : Oper} {ops : Array Oper} {tmps : Array Value} {j d : Nat} {b c : Bool} (hg : o.guard = some (j, c)) (ho : (ops[j]?).bind (·.dst) = some d) (hs : d < tmps.size) (h : tmps.getD d undef = .bool b) (hb : b = c) :
    Region.wanted o (yielded ops tmps) = true := by
  subst hb
  have e : tmps[d]? = some (.bool b) := by
    rw [Array.getD_eq_getD_getElem?] at h
    rw [Array.getElem?_eq_getElem hs] at h ⊢
    simpa using h
  unfold Region.wanted yielded
  rw [hg]
  simp [ho, e]
theorem unwanted_at {o : Oper} {ops : Array Oper} {tmps : Array Value} {j d : Nat} {b c : Bool} (hg : o.guard = some (j, c)) (ho : (ops[j]?).bind (·.dst) = some d) (hs : d < tmps.size) (h : tmps.getD d undef = .bool b) (hb : b ≠ c) :
    Region.wanted o (yielded ops tmps) = false := by
  have e : tmps[d]? = some (.bool b) := by
    rw [Array.getD_eq_getD_getElem?] at h
    rw [Array.getElem?_eq_getElem hs] at h ⊢
    simpa using h
  unfold Region.wanted yielded
  rw [hg]
  simp [ho, e, hb]
/-- what a guarded operation leaves -/
def gd (q : Bool) (v : Value) : Value := match q with
  | true => undef
  | false => v
/-- the frame is A, with what the slots hold laid into it -/
theorem Near.puts {A a : Act} {lo hi : Nat} (n : Nat) (hn : lo + n ≤ A.tmps.size) (h : Near A lo hi a) (hh : hi + 1 = lo + n) :
    a = ⟨(A.tmps.toList.take lo ++ (List.range n).map (fun j => a.tmps.getD (lo + j) undef) ++ A.tmps.toList.drop (lo + n)).toArray, A.defers⟩ := by
  obtain ⟨at', ad⟩ := a
  obtain ⟨⟨Al⟩, Ad⟩ := A
  have hd : ad = Ad := h.defers
  subst hd
  have hsz : at'.size = Al.length := h.size
  have hn' : lo + n ≤ Al.length := hn
  show (⟨at', ad⟩ : Act) = ⟨(Al.take lo ++ (List.range n).map (fun j => at'.getD (lo + j) undef) ++ Al.drop (lo + n)).toArray, ad⟩
  congr 1
  apply Array.ext_getElem?
  intro j
  have e2 : ∀ l : List Value, (l.toArray)[j]? = l[j]? := fun l => by simp
  refine Eq.trans ?_ (e2 _).symm
  have hslot : ¬ (lo ≤ j ∧ j ≤ hi) → j < Al.length → at'[j]? = Al[j]? := fun hj hs => by
    have hslot : at'.getD j undef = (⟨Al⟩ : Array Value).getD j undef := h.slot j hj
    rw [Array.getD_eq_getD_getElem?, Array.getD_eq_getD_getElem?, Array.getElem?_eq_getElem (by omega), Array.getElem?_eq_getElem (show j < (⟨Al⟩ : Array Value).size from hs)] at hslot
    rw [Array.getElem?_eq_getElem (by omega), List.getElem?_eq_getElem hs]
    simpa using hslot
  have hl1 : (Al.take lo).length = lo := by rw [List.length_take]; omega
  have hl2 : (Al.take lo ++ (List.range n).map (fun j => at'.getD (lo + j) undef)).length = lo + n := by rw [List.length_append, hl1, List.length_map, List.length_range]
  rcases Nat.lt_or_ge j (lo + n) with h1 | h1
  · rw [List.getElem?_append_left (by omega)]
    rcases Nat.lt_or_ge j lo with h2 | h2
    · rw [List.getElem?_append_left (by omega), List.getElem?_take_of_lt h2]
      exact hslot (by omega) (by omega)
    · rw [List.getElem?_append_right (by omega), hl1, List.getElem?_map, List.getElem?_range (by omega), Option.map_some, show lo + (j - lo) = j by omega, Array.getD_eq_getD_getElem?, Array.getElem?_eq_getElem (by omega)]
      rfl
  · rw [List.getElem?_append_right (by omega), hl2, List.getElem?_drop, show lo + n + (j - (lo + n)) = j by omega]
    rcases Nat.lt_or_ge j Al.length with h2 | h2
    · exact hslot (by omega) h2
    · rw [Array.getElem?_eq_none (by omega), List.getElem?_eq_none h2]

end Go.Proofs.YtidakannaephoaaDoor
