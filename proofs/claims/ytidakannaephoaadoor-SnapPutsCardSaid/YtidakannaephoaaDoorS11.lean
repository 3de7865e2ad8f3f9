/- Texts of one claim, merged: Shelf, Bld, SnC2, SnC3, SnC4, SnC5. -/
import Derived.Shelf.Strings.Builder2
import Derived.Shelf.Strings.BuilderK
import Derived.Shelf.Strings.Repeat
import Derived.Test.YtidakannaephoaaDoorChecked
import Derived.Test.YtidakannaephoaaDoorS9
import Derived.Test.YtidakannaephoaaDoorS6
import Derived.Test.YtidakannaephoaaDoorS5
import Derived.Test.YtidakannaephoaaDoorS4
import Derived.Test.YtidakannaephoaaDoorS2

/-
  DERIVED: THE SHELF's CONTRACTS AT THIS DUMP, IN PLAIN WORDS (tools/lay-plain.mjs out of 'YtidakannaephoaaDoorShelf.lean', which tools/lay-shelf.mjs wrote): THE SAME DECLARATIONS UNDER THE SAME NAMES: 'import', 'namespace', 'open', 'def', 'theorem' AND NOTHING ELSE: no command of the shelf's: FOR A HAND-IN. Each laying: the table of numbers ('.._ren') and one theorem, a field a fact of the dump's own or the kernel's comparison; each contract: ONE APPLICATION.
-/
namespace Go.Proofs
open Go.Shelf
def Tryd.lays105_ren : Go.Shelf.Ren := ⟨fun | 105 => 33 | 212 => 44 | 99 => 45 | 165 => 46 | 166 => 36 | 170 => 47 | 169 => 37 | 263 => 53 | 264 => 54 | 206 => 55 | 240 => 48 | 241 => 56 | 276 => 57 | 277 => 59 | n => n, fun | 9 => 9 | 3 => 3 | 4 => 4 | 20 => 20 | 0 => 0 | 46 => 74 | 109 => 75 | 5 => 5 | 72 => 59 | 76 => 65 | 51 => 84 | 146 => 85 | 53 => 62 | 148 => 87 | 70 => 57 | 37 => 46 | 75 => 64 | 127 => 81 | 164 => 89 | 80 => 68 | n => n, fun | n => n⟩
theorem Tryd.lays105 : Go.Proofs.Lays.n105 Tryd.prog Tryd.lays105_ren := {
  mixed := by kernel_rfl
  f99 := Tryd.func45.trans (congrArg some (by kernel_rfl))
  f105 := Tryd.func33.trans (congrArg some (by kernel_rfl))
  f165 := Tryd.func46.trans (congrArg some (by kernel_rfl))
  f166 := Tryd.func36.trans (congrArg some (by kernel_rfl))
  f169 := Tryd.func37.trans (congrArg some (by kernel_rfl))
  f170 := Tryd.func47.trans (congrArg some (by kernel_rfl))
  f206 := Tryd.func55.trans (congrArg some (by kernel_rfl))
  f212 := Tryd.func44.trans (congrArg some (by kernel_rfl))
  f240 := Tryd.func48.trans (congrArg some (by kernel_rfl))
  f241 := Tryd.func56.trans (congrArg some (by kernel_rfl))
  f263 := Tryd.func53.trans (congrArg some (by kernel_rfl))
  f264 := Tryd.func54.trans (congrArg some (by kernel_rfl))
  f276 := Tryd.func57.trans (congrArg some (by kernel_rfl))
  f277 := Tryd.func59.trans (congrArg some (by kernel_rfl))
  t0 := Tryd.underlying0
  a0 := Tryd.isAgg0
  z0 := Tryd.sizeOf0
  v0 := Tryd.zeroValue0
  t3 := Tryd.underlying3
  a3 := Tryd.isAgg3
  z3 := Tryd.sizeOf3
  v3 := Tryd.zeroValue3
  t4 := Tryd.underlying4
  a4 := Tryd.isAgg4
  z4 := Tryd.sizeOf4
  v4 := Tryd.zeroValue4
  t5 := Tryd.underlying5
  a5 := Tryd.isAgg5
  z5 := Tryd.sizeOf5
  v5 := Tryd.zeroValue5
  t9 := Tryd.underlying9
  a9 := Tryd.isAgg9
  z9 := Tryd.sizeOf9
  v9 := Tryd.zeroValue9
  t20 := Tryd.underlying20
  a20 := Tryd.isAgg20
  z20 := Tryd.sizeOf20
  v20 := Tryd.zeroValue20
  t37 := Tryd.underlying46
  a37 := Tryd.isAgg46
  z37 := Tryd.sizeOf46
  v37 := Tryd.zeroValue46
  t46 := Tryd.underlying74
  a46 := Tryd.isAgg74
  z46 := Tryd.sizeOf74
  v46 := Tryd.zeroValue74
  t51 := Tryd.underlying84
  a51 := Tryd.isAgg84
  z51 := Tryd.sizeOf84
  v51 := Tryd.zeroValue84
  t53 := Tryd.underlying62
  a53 := Tryd.isAgg62
  z53 := Tryd.sizeOf62
  v53 := Tryd.zeroValue62
  t70 := Tryd.underlying57
  a70 := Tryd.isAgg57
  z70 := Tryd.sizeOf57
  v70 := Tryd.zeroValue57
  t72 := Tryd.underlying59
  a72 := Tryd.isAgg59
  z72 := Tryd.sizeOf59
  v72 := Tryd.zeroValue59
  t75 := Tryd.underlying64
  a75 := Tryd.isAgg64
  z75 := Tryd.sizeOf64
  v75 := Tryd.zeroValue64
  t76 := Tryd.underlying65
  a76 := Tryd.isAgg65
  z76 := Tryd.sizeOf65
  v76 := Tryd.zeroValue65
  t109 := Tryd.underlying75
  a109 := Tryd.isAgg75
  z109 := Tryd.sizeOf75
  v109 := Tryd.zeroValue75
  t127 := Tryd.underlying81
  a127 := Tryd.isAgg81
  z127 := Tryd.sizeOf81
  v127 := Tryd.zeroValue81
  t146 := Tryd.underlying85
  a146 := Tryd.isAgg85
  z146 := Tryd.sizeOf85
  v146 := Tryd.zeroValue85
  t148 := Tryd.underlying87
  a148 := Tryd.isAgg87
  z148 := Tryd.sizeOf87
  v148 := Tryd.zeroValue87
  t164 := Tryd.underlying89
  a164 := Tryd.isAgg89
  z164 := Tryd.sizeOf89
  v164 := Tryd.zeroValue89 }
theorem Tryd.Builder_Extra_105 : Builder.Extra Tryd.prog Tryd.lays105_ren := {
  sizeBuilder := by kernel_rfl
  liesBuilder := by kernel_rfl
  t5 := Tryd.underlying5
  a5 := Tryd.isAgg5
  z5 := Tryd.sizeOf5
  v5 := Tryd.zeroValue5
  infoByte := by kernel_rfl
  cellsByte := by kernel_rfl
  sizeByte := by kernel_rfl
  neB5 := by decide }
end Go.Proofs

/- A strings.Builder that a call has made itself, in a walk: the shelf's contracts at this program, over texts. -/
namespace Go.Proofs.YtidakannaephoaaDoor
set_option maxRecDepth 100000
open Go.RowKit

/-- a builder of the call's own, in block b, holds the text s -/
def Bld (B b : Nat) (s : ByteArray) (w : World) : Prop := Lib.IsBuilderF 59 5 B b (Lib.strCells s) w
theorem strCells_append (s t : ByteArray) : Lib.strCells s ++ Lib.strCells t = Lib.strCells (s ++ t) := by
  simp [Lib.strCells, ByteArray.data_append]
theorem Bld.le {B b : Nat} {s : ByteArray} {w : World} (h : Bld B b s w) : B ≤ b := by rcases h with h | h <;> exact h.1
theorem Bld.lt {B b : Nat} {s : ByteArray} {w : World} (h : Bld B b s w) : b < w.heap.size := by rcases h with h | h <;> exact h.lt
theorem Bld.drew {B b : Nat} {s : ByteArray} {w : World} (h : Bld B b s w) : Bld B b s w.drew := h
theorem Bld.alloc {B b : Nat} {s : ByteArray} {w : World} (h : Bld B b s w) (o : Obj) : Bld B b s (w.alloc o) := Lib.IsBuilderF.alloc h o
/-- it stands while a block that is no row of cells turns -/
theorem builderAt_kept {T e : TypeId} {B b : Nat} {p : Value} {bs : List Value} {W W' : World} {row : Option Nat} (h : Lib.BuilderAtF T e B b p bs W) (hg : W.grownBy W' row)
    (hr : ∀ r, row = some r → ∃ o : Obj, W.heap[r]? = some o ∧ o.isCells = false) : Lib.BuilderAtF T e B b p bs W' := by
  have hlt := h.lt
  obtain ⟨hB, v, hb, hown, hne⟩ := h
  refine ⟨hB, v, (hg.block b hlt fun hx => ?_).trans hb, hown.kept hg ?_, hne⟩
  · obtain ⟨o, ho, hc⟩ := hr b hx.symm
    rw [hb] at ho
    cases ho
    cases hc
  · cases hv : v.ownBlock with
    | none => exact Or.inl rfl
    | some g =>
      refine Or.inr fun hx => ?_
      obtain ⟨o, ho, hc⟩ := hr g hx.symm
      obtain ⟨c, fz, hcs⟩ := Lib.ownsRowF_kind hown g hv
      rw [hcs] at ho
      cases ho
      cases hc
theorem Bld.kept {B b : Nat} {s : ByteArray} {W W' : World} {row : Option Nat} (h : Bld B b s W) (hg : W.grownBy W' row) (hr : ∀ r, row = some r → ∃ o : Obj, W.heap[r]? = some o ∧ o.isCells = false) : Bld B b s W' :=
  h.imp (fun h => builderAt_kept h hg hr) (fun h => builderAt_kept h hg hr)
/-- it stands over a call that turns nothing that lay -/
theorem builderAt_after {T e : TypeId} {B b : Nat} {p : Value} {bs : List Value} {W W' : World} (h : Lib.BuilderAtF T e B b p bs W) (hb : Below W.heap.size W W') : Lib.BuilderAtF T e B b p bs W' := by
  have hlt := h.lt
  obtain ⟨hB, v, hk, hown, hne⟩ := h
  refine ⟨hB, v, (hb.block b hlt).trans hk, ?_, hne⟩
  refine ⟨hown.1, hown.2.imp id ?_⟩
  rintro ⟨g, cap, cur, fz, hv, hg, hc, hr⟩
  exact ⟨g, cap, cur, fz, hv, hg, (hb.block g (Array.getElem?_eq_some_iff.1 hc).1).trans hc, hr⟩
theorem Bld.after {B b : Nat} {s : ByteArray} {W W' : World} (h : Bld B b s W) (hb : Below W.heap.size W W') : Bld B b s W' :=
  h.imp (fun h => builderAt_after h hb) (fun h => builderAt_after h hb)
/-- it stands over a store into a block that is not its own and no row of bytes -/
theorem builderAt_set {T e : TypeId} {B b : Nat} {p : Value} {bs : List Value} {W : World} {x i : Nat} {cs : Array Value} {t : TypeId} (h : Lib.BuilderAtF T e B b p bs W) (hk : Blk W x cs t) (hx : x ≠ b) (ht : t ≠ e) (v : Value) : Lib.BuilderAtF T e B b p bs (W.setCell ⟨x, i, none⟩ v) := by
  obtain ⟨hB, u, hb, hown, hne⟩ := h
  refine ⟨hB, u, (Below.heap_setCell _ _ _ _ (fun hc => hx hc.symm)).trans hb, ?_, hne⟩
  refine ⟨hown.1, hown.2.imp id ?_⟩
  rintro ⟨g, cap, cur, fz, hv, hg, hc, hr⟩
  refine ⟨g, cap, cur, fz, hv, hg, (Below.heap_setCell _ _ _ _ (fun he => ?_)).trans hc, hr⟩
  have he2 : g = x := he
  rw [he2, show W.heap[x]? = _ from hk] at hc
  injection hc with hc
  injection hc with _ h2 _
  exact ht h2
theorem Bld.set {B b : Nat} {s : ByteArray} {W : World} {x i : Nat} {cs : Array Value} {t : TypeId} (h : Bld B b s W) (hk : Blk W x cs t) (hx : x ≠ b) (ht : t ≠ 5) (v : Value) : Bld B b s (W.setCell ⟨x, i, none⟩ v) :=
  h.imp (fun h => builderAt_set h hk hx ht v) (fun h => builderAt_set h hk hx ht v)
theorem Bld.cells {B b : Nat} {s : ByteArray} {w : World} (h : Bld B b s w) : ∀ o : Obj, w.heap[b]? = some o → o.isCells = true := by
  intro o ho
  rcases h with ⟨_, v, hb, _⟩ | ⟨_, v, hb, _⟩
  all_goals
    rw [hb] at ho
    cases ho
    rfl
theorem bld_write (B b : Nat) (s t : ByteArray) (w : World) (h : Bld B b s w) (hn : s.size + t.size ≤ 1000000) :
    Calls Tryd.prog 36 #[.pointer (some ⟨b, 0, none⟩), .string t] w fun e w' =>
      e = .returned (.tuple #[.int .i64 t.size, .nilIface]) ∧ Bld B b (s ++ t) w' ∧ Below B w w' ∧ Lib.OthersKept 5 (some b) w w' :=
  (Any.Builder_WriteString_k { Tryd.lays105 with } Tryd.Builder_Extra_105 B b _ t w h (by rw [Lib.strCells_length]; omega) (Nat.le_of_lt (Nat.lt_of_le_of_lt h.le h.lt))).mono fun _ _ ⟨he, hb, hw, hk⟩ => ⟨he, Or.inr (by rw [← strCells_append]; exact hb), hw, hk⟩
theorem bld_string (B b : Nat) (s : ByteArray) (w : World) (h : Bld B b s w) :
    Calls Tryd.prog 37 #[.pointer (some ⟨b, 0, none⟩)] w fun e w' => e = .returned (.string s) ∧ Bld B b s w' ∧ Below B w w' ∧ Lib.OthersKept 5 (some b) w w' :=
  (Any.Builder_String_any_k { Tryd.lays105 with } Tryd.Builder_Extra_105 B b s.data.toList w h (Nat.le_of_lt (Nat.lt_of_le_of_lt h.le h.lt))).mono fun _ _ ⟨he, hb, hw, hk⟩ => ⟨he, hb, hw, hk⟩

end Go.Proofs.YtidakannaephoaaDoor

/- Package snap, walked: the text of what is durable. -/
namespace Go.Proofs.YtidakannaephoaaDoor
set_option maxRecDepth 100000
open Go.RowKit

/-- a builder just made -/
theorem bld_new (w : World) : Bld w.heap.size w.heap.size ByteArray.empty (w.alloc (.cells #[.pointer none, .slice none 0 0] 59)) :=
  Or.inl ⟨Nat.le_refl _, .slice none 0 0, heap_alloc_new _ _, ⟨rfl, .inl ⟨rfl, rfl⟩⟩, by simp [Value.ownBlock]⟩
/-- a builder is not moved by what turns nothing that lies there -/
theorem put_cv (v : Int) (n : Nat) (w : World) (h1 : n = 3 ∨ n = 4 ∨ n = 6) (v0 : 0 ≤ v) (v1 : v < p2 (8 * n)) :
    Calls Tryd.prog 35 #[.int .u64 v, .int .i64 n] w fun e w' => e = .returned (.tuple #[.string (leS v n), .int .i64 0]) ∧ Below w.heap.size w w' := by
  rcases h1 with rfl | rfl | rfl
  · exact put_3 v w v0 (by rw [p2_24] at v1; exact v1)
  · exact put_4 v w v0 (by rw [p2_32] at v1; exact v1)
  · exact put_6 v w v0 (by rw [p2_48] at v1; exact v1)

/-- what the text's closure leaves -/
def PutW (B b : Nat) (s : ByteArray) (w : World) (e : Ending) (w' : World) : Prop := e = .returned (.tuple #[]) ∧ Bld B b s w' ∧ Below B w w'
theorem sn_put1 (B b : Nat) (s : ByteArray) (v : Int) (n : Nat) (w : World) (h1 : n = 3 ∨ n = 4 ∨ n = 6) (v0 : 0 ≤ v) (v1 : v < p2 (8 * n)) (hb : Bld B b s w) (hs : s.size + n ≤ 1000000) :
    Calls Tryd.prog 34 #[.int .i64 v, .int .i64 n, .pointer (some ⟨b, 0, none⟩)] w (PutW B b (s ++ leS v n) w) := by
  have hp : p2 (8 * n) ≤ 281474976710656 := by rw [← p2_48]; exact p2_le (by omega)
  have hw : IntKind.u64.wrap v = v := by rw [IntKind.wrap_u64]; omega
  have HB := Lib.hid hb
  have hz : (leS v n).size = n := le_length n v
  have HPut := Lib.hid (fun w => put_cv v n w h1 v0 v1)
  have hBw : B ≤ w.heap.size := Nat.le_of_lt (Nat.lt_of_le_of_lt hb.le hb.lt)
  obtain ⟨t, ht⟩ : ∃ t, leS v n = t := ⟨_, rfl⟩
  rw [ht] at hz HPut ⊢
  clear hb h1 hp v1 ht
  go_enter Tryd.func34, Tryd.ntmps34
  go_wp2_with fail
  refine (HPut.out _).mono ?_
  rintro e w1 ⟨rfl, hb1⟩
  have HB1 := Lib.hid (HB.out.after hb1)
  have HL1 : Hid (Below B w w1) := hb1.mono hBw
  clear hb1 HB
  go_wp2_with fail
  refine (bld_write B b s t w1 HB1.out (by omega)).mono ?_
  rintro e w2 ⟨rfl, hb2, hl2, _⟩
  have HB2 := Lib.hid hb2
  have HL2 := Lib.hid (HL1.out.trans hl2)
  clear hb2 hl2
  go_wp2_with fail
  refine bodyPost_end (results_none rfl _ _ _) rfl ?_
  exact ⟨rfl, HB2.out, HL2.out⟩

end Go.Proofs.YtidakannaephoaaDoor

/- Package snap, walked: text. -/
namespace Go.Proofs.YtidakannaephoaaDoor
set_option maxRecDepth 100000
open Go.RowKit

/-- what text lays: the state's box, the builder behind it -/
def TxW (w0 : World) (A : Array Value) (s : ByteArray) (w : World) : Prop :=
  Blk w w0.heap.size A 26 ∧ Bld (w0.heap.size + 1) (w0.heap.size + 1) s w ∧ Below w0.heap.size w0 w
theorem TxW.new (w0 : World) (A : Array Value) : TxW w0 A ByteArray.empty ((w0.alloc (.cells A 26)).alloc (.cells #[.pointer none, .slice none 0 0] 59)) := by
  refine ⟨(Blk.new _ _ _).alloc _, ?_, ((Below.refl _ _).alloc (Nat.le_refl _) _).alloc (by simp) _⟩
  have h := bld_new (w0.alloc (.cells A 26))
  rwa [World.size_alloc] at h
theorem TxW.put {w0 w w' : World} {A : Array Value} {s t : ByteArray} (h : TxW w0 A s w) (hb : Bld (w0.heap.size + 1) (w0.heap.size + 1) t w') (hw : Below (w0.heap.size + 1) w w') : TxW w0 A t w' :=
  ⟨h.1.below hw (by omega), hb, h.2.2.trans (hw.mono (by omega))⟩
theorem TxW.four {w0 w : World} {s : ByteArray} {vf vc vs vt : Value} (h : TxW w0 #[vf, vc, vs, vt] s w) :
    w.cell? ⟨w0.heap.size, 0, none⟩ = some vf ∧ w.cell? ⟨w0.heap.size, 1, none⟩ = some vc ∧ w.cell? ⟨w0.heap.size, 2, none⟩ = some vs ∧ w.cell? ⟨w0.heap.size, 3, none⟩ = some vt :=
  ⟨h.1.cell 0, h.1.cell 1, h.1.cell 2, h.1.cell 3⟩
/-- the closure, from here -/
theorem TxW.call {w0 w : World} {A : Array Value} {s : ByteArray} (h : TxW w0 A s w) (v : Int) (n : Nat) (h1 : n = 3 ∨ n = 4 ∨ n = 6) (v0 : 0 ≤ v) (v1 : v < p2 (8 * n)) (hs : s.size + n ≤ 1000000) :
    Calls Tryd.prog 34 #[.int .i64 v, .int .i64 n, .pointer (some ⟨w0.heap.size + 1, 0, none⟩)] w fun e w' => e = .returned (.tuple #[]) ∧ TxW w0 A (s ++ leS v n) w' :=
  (sn_put1 _ _ s v n w h1 v0 v1 h.2.1 hs).mono fun _ _ ⟨he, hb, hw⟩ => ⟨he, h.put hb hw⟩

set_option maxHeartbeats 2000000 in
theorem sn_text (w : World) (A : Array Value) (x : Sn) (N M : Nat) (hN : N ≤ 4096) (hM : M ≤ 64) (hA : SnAt w A x) (hfit : FitS M N x) :
    Calls Tryd.prog 20 #[.agg A] w fun e w' => e = .returned (.string (accK x M)) ∧ Below w.heap.size w w' := by
  have HT0 := Lib.hid (TxW.new w A)
  obtain ⟨vf, vc, vs, vt, rfl, h1, h2, h3, h4⟩ := hA
  obtain ⟨⟨l1, m1⟩, ⟨l2, m2⟩, ⟨l3, m3⟩, ⟨l4, m4⟩⟩ := hfit
  have LN : Hid (x.f.length = N ∧ x.c.length = M ∧ x.s.length = M ∧ x.t.length = M) := ⟨by omega, by omega, by omega, by omega⟩
  have HBD : Hid (N ≤ 4096 ∧ M ≤ 64) := ⟨hN, hM⟩
  have M1 := Lib.hid m1
  have M2 := Lib.hid m2
  have M3 := Lib.hid m3
  have M4 := Lib.hid m4
  obtain ⟨of, cf, rfl, kf, ef⟩ := h1
  obtain ⟨oc, cc, rfl, kc, ec⟩ := h2
  obtain ⟨os, cs, rfl, ks, es⟩ := h3
  obtain ⟨ot, ct, rfl, kt, et⟩ := h4
  rw [LN.out.1, LN.out.2.1, LN.out.2.2.1, LN.out.2.2.2] at HT0
  rw [LN.out.1, LN.out.2.1, LN.out.2.2.1, LN.out.2.2.2]
  have EF := Lib.hid ef
  have EC := Lib.hid ec
  have ES := Lib.hid es
  have ET := Lib.hid et
  clear ef ec es et kf kc ks kt l1 l2 l3 l4 m1 m2 m3 m4
  have hmf : ∀ (fn : Fn) (first cap : Array Value) (w : World), (Instr.makeFunc fn first cap).run Tryd.prog w = .ok (.func fn first cap) w := fun _ _ _ _ => rfl
  go_enter Tryd.func20, Tryd.ntmps20
  go_wp2_with fail
  have HT1 : Hid (TxW w #[.slice of N cf, .slice oc M cc, .slice os M cs, .slice ot M ct] (accF x.f 0) ((w.alloc (.cells #[.slice of N cf, .slice oc M cc, .slice os M cs, .slice ot M ct] 26)).alloc (.cells #[.pointer none, .slice none 0 0] 59))) := HT0.out
  clear HT0
  generalize (w.alloc (.cells #[.slice of N cf, .slice oc M cc, .slice os M cs, .slice ot M ct] 26)).alloc (.cells #[.pointer none, .slice none 0 0] 59) = w2 at HT1 ⊢
  go_loopw [13] (fun iv wr => ∃ i : Nat, i ≤ N ∧ iv = .int .i64 i ∧ Hid (TxW w #[.slice of N cf, .slice oc M cc, .slice os M cs, .slice ot M ct] (accF x.f i) wr)) (fun iv _ => N + 1 - (intOf iv).toNat)
  case atStart => exact ⟨0, Nat.zero_le _, rfl, HT1.out⟩
  case round =>
    obtain ⟨i, hi, rfl, HT⟩ := hrel
    by_cases hlt : i < N
    · have hltz : (i : Int) < (N : Int) := by omega
      have hil : i < x.f.length := by have := LN.out.1; omega
      obtain ⟨gb, go, rfl, hg, hrow⟩ := EF.out (by intro h0; rw [h0] at hil; exact absurd hil (Nat.not_lt_zero _))
      have r1 := hrow i hil
      have c1 := (HT.out.2.2.cell (p := ⟨gb, go + i, none⟩) (cell_lt r1)).trans r1
      have hv := M1.out _ (List.getElem_mem hil)
      have hst := accF_step x.f i hil
      have hsz := accF_size x.f i
      obtain ⟨v, hve⟩ : ∃ v, x.f[i] = v := ⟨_, rfl⟩
      rw [hve] at c1 hv hst
      have HCall := Lib.hid (HT.out.call v 6 (by omega) hv.1 (by rw [p2_48]; omega) (by rw [hsz]; have := HBD.out; omega))
      rw [← hst] at HCall
      clear hrow r1 hv hst hve hil hsz
      go_wp2_with fail
      refine HCall.out.mono ?_
      rintro e w6 ⟨rfl, ht6⟩
      have HT6 := Lib.hid ht6
      clear ht6 HT HCall
      have h4096 := HBD.out.1
      go_wp2_with fail
      refine ⟨⟨i + 1, by omega, by go_num, HT6⟩, ?_⟩
      simp [intOf]; omega
    · obtain rfl : i = N := by omega
      have hltz : ¬ (i : Int) < (i : Int) := by omega
      have hall : accF x.f i = accK x 0 := by have h := accF_all x; rw [LN.out.1] at h; exact h
      rw [hall] at HT
      obtain ⟨f0, f1, f2, f3⟩ := HT.out.four
      clear hall hlt EF
      go_wp2_with fail
      obtain ⟨w7, hw7⟩ : ∃ w7, wr = w7 := ⟨_, rfl⟩
      have HT7 : Hid (TxW w #[.slice of i cf, .slice oc M cc, .slice os M cs, .slice ot M ct] (accK x 0) w7) := by rw [← hw7]; exact HT
      subst hw7
      clear f0 f1 f2 f3 hltz hi HT HT1
      go_loopw [24] (fun jv wr => ∃ j : Nat, j ≤ M ∧ jv = .int .i64 j ∧ Hid (TxW w #[.slice of i cf, .slice oc M cc, .slice os M cs, .slice ot M ct] (accK x j) wr)) (fun jv _ => M + 1 - (intOf jv).toNat)
      case atStart => exact ⟨0, Nat.zero_le _, rfl, HT7.out⟩
      case round =>
        obtain ⟨j, hj, rfl, HT8⟩ := hrel
        by_cases hlt : j < M
        · have hltz : (j : Int) < (M : Int) := by omega
          have i1 : (0 : Int) ≤ (j : Int) := by omega
          have j1 : j < x.c.length := by have := LN.out.2.1; omega
          have j2 : j < x.s.length := by have := LN.out.2.2.1; omega
          have j3 : j < x.t.length := by have := LN.out.2.2.2; omega
          obtain ⟨gc, pc, rfl, hg1, hrow1⟩ := EC.out (by intro h0; rw [h0] at j1; exact absurd j1 (Nat.not_lt_zero _))
          obtain ⟨gs, ps, rfl, hg2, hrow2⟩ := ES.out (by intro h0; rw [h0] at j2; exact absurd j2 (Nat.not_lt_zero _))
          obtain ⟨gt, pt, rfl, hg3, hrow3⟩ := ET.out (by intro h0; rw [h0] at j3; exact absurd j3 (Nat.not_lt_zero _))
          have r1 := hrow1 j j1
          have r2 := hrow2 j j2
          have r3 := hrow3 j j3
          have v1 := M2.out _ (List.getElem_mem j1)
          have v2 := M3.out _ (List.getElem_mem j2)
          have v3 := M4.out _ (List.getElem_mem j3)
          have hst := accK_step x j j1 j2 j3
          have hsz : (accK x j).size ≤ 900000 := by rw [accK_size]; have := LN.out; have := HBD.out; omega
          obtain ⟨ci, e1⟩ : ∃ v, x.c[j] = v := ⟨_, rfl⟩
          obtain ⟨si, e2⟩ : ∃ v, x.s[j] = v := ⟨_, rfl⟩
          obtain ⟨ti, e3⟩ : ∃ v, x.t[j] = v := ⟨_, rfl⟩
          rw [e1] at r1 v1
          rw [e2] at r2 v2
          rw [e3] at r3 v3
          rw [e1, e2, e3] at hst
          have c1 := (HT8.out.2.2.cell (p := ⟨gc, pc + j, none⟩) (cell_lt r1)).trans r1
          have z1 : (leS ci 4).size = 4 := leS_size _ _
          have z2 : (leS si 3).size = 3 := leS_size _ _
          have z3 : (leS ti 3).size = 3 := leS_size _ _
          have y1 : (accK x j ++ leS ci 4).size ≤ 900004 := by rw [ByteArray.size_append, z1]; omega
          have y2 : ((accK x j ++ leS ci 4) ++ leS si 3).size ≤ 900007 := by rw [ByteArray.size_append, z2]; omega
          have HC1 : Hid (∀ w', TxW w #[.slice of i cf, .slice (some ⟨gc, pc, none⟩) M cc, .slice (some ⟨gs, ps, none⟩) M cs, .slice (some ⟨gt, pt, none⟩) M ct] (accK x j) w' → _) := fun w' h => h.call ci 4 (by omega) v1.1 (by rw [p2_32]; omega) (by omega)
          have HC2 : Hid (∀ w', TxW w #[.slice of i cf, .slice (some ⟨gc, pc, none⟩) M cc, .slice (some ⟨gs, ps, none⟩) M cs, .slice (some ⟨gt, pt, none⟩) M ct] (accK x j ++ leS ci 4) w' → _) := fun w' h => h.call si 3 (by omega) v2.1 (by rw [p2_24]; omega) (by omega)
          have HC3 : Hid (∀ w', TxW w #[.slice of i cf, .slice (some ⟨gc, pc, none⟩) M cc, .slice (some ⟨gs, ps, none⟩) M cs, .slice (some ⟨gt, pt, none⟩) M ct] ((accK x j ++ leS ci 4) ++ leS si 3) w' → _) := fun w' h => h.call ti 3 (by omega) v3.1 (by rw [p2_24]; omega) (by omega)
          simp only [← hst] at HC3
          have R2 := Lib.hid r2
          have R3 := Lib.hid r3
          clear hrow1 hrow2 hrow3 r1 r2 r3 v1 v2 v3 hst hsz e1 e2 e3 j1 j2 j3 hg1 hg2 hg3 z1 z2 z3 y1 y2
          go_wp2_with fail
          refine (HC1.out _ HT8.out).mono ?_
          rintro e wa ⟨rfl, hta⟩
          have HTA := Lib.hid hta
          obtain ⟨f0, f1, f2, f3⟩ := hta.four
          have c2 := (hta.2.2.cell (p := ⟨gs, ps + j, none⟩) (cell_lt R2.out)).trans R2.out
          clear hta HT8 HC1 c1
          go_wp2_with fail
          refine (HC2.out _ HTA.out).mono ?_
          rintro e wb ⟨rfl, htb⟩
          have HTB := Lib.hid htb
          clear f0 f1 f2 f3
          obtain ⟨f0, f1, f2, f3⟩ := htb.four
          have c3 := (htb.2.2.cell (p := ⟨gt, pt + j, none⟩) (cell_lt R3.out)).trans R3.out
          clear htb HTA HC2 c2
          go_wp2_with fail
          refine (HC3.out _ HTB.out).mono ?_
          rintro e wc ⟨rfl, htc⟩
          have HTC := Lib.hid htc
          clear htc HTB HC3 c3 f0 f1 f2 f3
          have h64 := HBD.out.2
          go_wp2_with fail
          refine ⟨⟨j + 1, by omega, by go_num, HTC⟩, ?_⟩
          simp [intOf]; omega
        · obtain rfl : j = M := by omega
          have hltz : ¬ (j : Int) < (j : Int) := by omega
          clear hlt
          go_wp2_with fail
          refine (bld_string _ _ _ _ HT8.out.2.1).mono ?_
          rintro e wa ⟨rfl, _, hba, _⟩
          have HBE : Hid (Below w.heap.size w wa) := HT8.out.2.2.trans (hba.mono (by omega))
          clear hba
          go_wp2_with fail
          go_ret
          exact ⟨rfl, HBE.out⟩

end Go.Proofs.YtidakannaephoaaDoor

/- Package snap, walked: cut; a slice of texts, made at once, whole. -/
namespace Go.Proofs.YtidakannaephoaaDoor
set_option maxRecDepth 100000
open Go.RowKit

theorem rep_zero (c : Nat) : (⟨(Lib.repeatL (⟨#[0]⟩ : ByteArray).data.toList c).toArray⟩ : ByteArray) = ⟨(List.replicate c 0).toArray⟩ := by
  have h : ∀ c, Lib.repeatL (⟨#[0]⟩ : ByteArray).data.toList c = List.replicate c 0 := fun c => by
    induction c with
    | zero => rfl
    | succ c ih => rw [List.replicate_succ, ← ih]; rfl
  rw [h]
theorem pad_app (s : ByteArray) (c : Nat) : s ++ (⟨(List.replicate c 0).toArray⟩ : ByteArray) = padT s c := by
  apply bytes_eq
  rw [ByteArray.data_append, Array.toList_append]
  rfl

/-- texts as cells -/
def txC (l : List ByteArray) : Array Value := (strV l).toArray
theorem txC_size (l : List ByteArray) : (txC l).size = l.length := by simp [txC, strV]
theorem txC_set (l : List ByteArray) (i : Nat) (s : ByteArray) : (txC l).setIfInBounds i (.string s) = txC (l.set i s) := by
  unfold txC strV
  rw [List.setIfInBounds_toArray, List.map_set]
theorem run_make_texts (n : Nat) (hn : n ≤ 1000000) (w : World) : Sem.run Tryd.prog (Instr.makeSlice 27 (.int .i64 (n : Int)) (.int .i64 (n : Int))) w = .ok (.slice (some ⟨w.heap.size, 0, none⟩) n n) (w.alloc (.cells (txC (List.replicate n ByteArray.empty)) 9)) := by
  obtain ⟨i0, hi, hz0, hz1, hz2⟩ := info_partsX infoStr
  have h := run_make (P := Tryd.prog) w 27 9 i0 _ Tryd.underlying27 hi hz0 .i64 .i64 (n : Int) (n : Int) (by omega) (Int.le_refl _) (by rw [hz2]; omega) (by omega)
  rw [hz1] at h
  have e : madeCells #[.string ByteArray.empty] (n * 1) = txC (List.replicate n ByteArray.empty) := by
    apply Array.ext
    · rw [size_madeCells, txC_size, List.length_replicate, Nat.mul_one]
    · intro j h1 h2
      simp only [madeCells, txC, strV, Array.getElem_map, Array.getElem_range, List.getElem_toArray, List.getElem_map, List.getElem_replicate]
      rw [show (#[Value.string ByteArray.empty] : Array Value).size = 1 from rfl, Nat.mod_one]
      rfl
  simp only [Int.toNat_natCast, Value.cells, e] at h
  exact h
theorem blk_texts {w : World} {g B : Nat} {l : List ByteArray} (h : Blk w g (txC l) 9) (hB : B ≤ g) (hl : l.length ≤ 1000000) : w.ownsRow B 9 1 (.slice (some ⟨g, 0, none⟩) l.length l.length) l.length (strV l) :=
  ⟨by simp [strV], .inr ⟨g, l.length, txC l, rfl, hB, h, Nat.le_refl _, by unfold maxLen; omega, by rw [txC_size, Nat.mul_one], by unfold txC; rw [List.toList_toArray]; exact List.take_of_length_le (Nat.le_of_eq (by simp [strV]))⟩⟩

/-- pages while they are cut -/
def cutL (t : ByteArray) (K Y i : Nat) : List ByteArray := (List.range K).map fun j => if j < i then t.extract (j * Y) (j * Y + Y) else ByteArray.empty
theorem cutL_len (t : ByteArray) (K Y i : Nat) : (cutL t K Y i).length = K := by simp [cutL]
theorem cutL_zero (t : ByteArray) (K Y : Nat) : List.replicate K ByteArray.empty = cutL t K Y 0 := by
  apply List.ext_getElem
  · simp [cutL]
  · intro j h1 h2; simp [cutL]
theorem cutL_all (t : ByteArray) (K Y : Nat) : cutL t K Y K = (List.range K).map fun j => t.extract (j * Y) (j * Y + Y) := by
  apply List.ext_getElem
  · simp [cutL]
  · intro j h1 h2
    simp [cutL] at h1 ⊢
    intro h; omega
theorem cutL_set (t : ByteArray) (K Y i : Nat) : (cutL t K Y i).set i (t.extract (i * Y) (i * Y + Y)) = cutL t K Y (i + 1) := by
  apply List.ext_getElem
  · simp [cutL]
  · intro j h1 h2
    simp only [cutL, List.getElem_set, List.getElem_map, List.getElem_range]
    by_cases h : i = j
    · subst h; simp
    · simp only [h, if_false]
      by_cases h3 : j < i
      · rw [if_pos h3, if_pos (by omega)]
      · rw [if_neg h3, if_neg (by omega)]

set_option maxHeartbeats 2000000 in
theorem sn_cut (s : ByteArray) (K Y T : Nat) (w : World) (hT : K * Y = T) (hs : s.size ≤ T) (hz : T ≤ 100000) (hK : K ≤ 100000) :
    Calls Tryd.prog 19 #[.string s, .int .i64 K, .int .i64 Y] w fun e w' => ∃ v, e = .returned v ∧ w'.ownsRow w.heap.size 9 1 v K (strV ((List.range K).map fun j => (padT s (T - s.size)).extract (j * Y) (j * Y + Y))) ∧ Below w.heap.size w w' := by
  obtain ⟨c, hc⟩ : ∃ c, T - s.size = c := ⟨_, rfl⟩
  have hTz : (K : Int) * (Y : Int) = (T : Int) := by rw [← hT]; exact (Int.natCast_mul _ _).symm
  have hcz : (T : Int) - (s.size : Int) = (c : Int) := by omega
  have hpad := pad_app s c
  have hpz : (padT s c).size = T := by rw [padT_size]; omega
  rw [hc]
  obtain ⟨t, ht⟩ : ∃ t, padT s c = t := ⟨_, rfl⟩
  rw [ht] at hpad hpz ⊢
  have hrz : (⟨(List.replicate c 0).toArray⟩ : ByteArray).size = c := by show (List.replicate c (0 : UInt8)).length = c; rw [List.length_replicate]
  have hno : ¬ 9223372036854775807 < s.size + (⟨(List.replicate c 0).toArray⟩ : ByteArray).size := by rw [hrz]; omega
  obtain ⟨z, hzz⟩ : ∃ z : ByteArray, (⟨(List.replicate c 0).toArray⟩ : ByteArray) = z := ⟨_, rfl⟩
  rw [hzz] at hpad hno
  have HREP : Hid (∀ w, Calls Tryd.prog 33 #[.string ⟨#[0]⟩, .int .i64 (c : Int)] w fun e w' => e = .returned (.string z) ∧ Below w.heap.size w w') := fun w => by
    refine (Any.strings_Repeat Tryd.lays105 Tryd.Builder_Extra_105 ⟨#[0]⟩ c w (by omega) (by show 1 * c ≤ _; omega)).mono ?_
    rintro e w' ⟨rfl, hb⟩
    rw [rep_zero, hzz]
    exact ⟨rfl, hb⟩
  have HPAD := Lib.hid hpad
  have HT := Lib.hid hT
  have hmk := run_make_texts K (by omega)
  clear hpad hrz hzz hT ht
  go_enter Tryd.func19, Tryd.ntmps19
  go_wp2_with fail
  refine (HREP.out _).mono ?_
  rintro e w1 ⟨rfl, hb1⟩
  have HB1 := Lib.hid hb1
  clear hb1 HREP
  go_wp2_with fail
  rw [HPAD.out]
  obtain ⟨g, hg⟩ : ∃ g, w1.heap.size = g := ⟨_, rfl⟩
  have hb0 : Blk (w1.alloc (.cells (txC (List.replicate K ByteArray.empty)) 9)) g (txC (cutL t K Y 0)) 9 := by rw [← cutL_zero, ← hg]; exact Blk.new _ _ _
  have hgw : w.heap.size ≤ g := by rw [← hg]; exact HB1.out.size
  have hbb : Below w.heap.size w (w1.alloc (.cells (txC (List.replicate K ByteArray.empty)) 9)) := HB1.out.alloc HB1.out.size _
  have HB0 := Lib.hid hb0
  have HBB := Lib.hid hbb
  have HG := Lib.hid hg
  have HGW := Lib.hid hgw
  rw [hg]
  clear hb0 hbb hg hgw hmk hno HB1 hcz
  generalize w1.alloc (.cells (txC (List.replicate K ByteArray.empty)) 9) = w2 at HB0 HBB ⊢
  go_loopw [22] (fun iv wr => ∃ i : Nat, i ≤ K ∧ iv = .int .i64 i ∧ Hid (Blk wr g (txC (cutL t K Y i)) 9) ∧ Hid (Below w.heap.size w wr)) (fun iv _ => K - (intOf iv).toNat)
  case atStart => exact ⟨0, Nat.zero_le _, rfl, HB0.out, HBB.out⟩
  case round =>
    obtain ⟨i, hi, rfl, HBK, HBW⟩ := hrel
    by_cases hlt : i < K
    · have hltz : (i : Int) < (K : Int) := by omega
      have h1 : (i + 1) * Y ≤ K * Y := Nat.mul_le_mul_right Y hlt
      rw [HT.out, Nat.add_mul, Nat.one_mul] at h1
      obtain ⟨q, hq⟩ : ∃ q, i * Y = q := ⟨_, rfl⟩
      rw [hq] at h1
      have e1 : (i : Int) * (Y : Int) = (q : Int) := by rw [← hq]; exact (Int.natCast_mul _ _).symm
      have e2 : ((i : Int) + 1) * (Y : Int) = ((q + Y : Nat) : Int) := by rw [Int.add_mul, e1]; omega
      have hto : ((q + Y : Nat) : Int).toNat = q + Y := by omega
      have hc0 : wr.cell? ⟨g, i, none⟩ = (txC (cutL t K Y i))[i]? := HBK.out.cell i
      have hci : (txC (cutL t K Y i))[i]? = some ((txC (cutL t K Y i))[i]'(by rw [txC_size, cutL_len]; exact hlt)) := Array.getElem?_eq_getElem _
      obtain ⟨u, hu⟩ : ∃ u, (txC (cutL t K Y i))[i]'(by rw [txC_size, cutL_len]; exact hlt) = u := ⟨_, rfl⟩
      rw [hci, hu] at hc0
      have hf0 : wr.frozen? ⟨g, i, none⟩ = false := HBK.out.free i
      have HNEW : Hid (Blk (wr.setCell ⟨g, i, none⟩ (.string (t.extract q (q + Y)))) g (txC (cutL t K Y (i + 1))) 9) := HBK.out.set i _ (by rw [txC_set, ← hq, cutL_set])
      have HBN : Hid (Below w.heap.size w (wr.setCell ⟨g, i, none⟩ (.string (t.extract q (q + Y))))) := HBW.out.setCell (p := ⟨g, i, none⟩) HGW.out _
      clear hci hu HBK HBW
      go_wp2_with fail
      go_roundw
      case rel => exact ⟨i + 1, hlt, by go_num, HNEW, HBN⟩
      case measure => simp [intOf]; omega
    · obtain rfl : i = K := by omega
      have hltz : ¬ (i : Int) < (i : Int) := by omega
      clear hlt
      go_wp2_with fail
      go_ret
      refine ⟨_, rfl, ?_, HBW.out⟩
      rw [← cutL_all]
      have h5 := blk_texts HBK.out HGW.out (by rw [cutL_len]; omega)
      rw [cutL_len] at h5
      exact h5

end Go.Proofs.YtidakannaephoaaDoor

/- Package snap, walked: Put. -/
namespace Go.Proofs.YtidakannaephoaaDoor
set_option maxRecDepth 100000
open Go.RowKit

/-- the slots that a fact looks at, those of a fact of one's own by the operation's number -/
def SV2S (vs : List (Option (Tmp × Value))) (f : Nat → List Tmp) : List (List Tmp) := vs.mapIdx fun j o => match o with
  | some (d, _) => [d]
  | none => f j
theorem RV.ext2S {vs : List (Option (Tmp × Value))} {f : Nat → List Tmp} {Sp : Nat → Act → World → Prop} {T : World → World → Prop}
    (hsp : ∀ j a a' w w', Sp j a w → (∀ d ∈ f j, a'.tmps.getD d undef = a.tmps.getD d undef) → T w w' → Sp j a' w') :
    ∀ j a a' w w', RV vs Sp j a w → (∀ s ∈ (SV2S vs f).getD j [], a'.tmps.getD s undef = a.tmps.getD s undef) → T w w' → RV vs Sp j a' w' := by
  intro j a a' w w' h hd hT
  unfold RV at *
  rw [List.getD_eq_getElem?_getD] at hd
  cases hj : vs[j]? with
  | none => trivial
  | some o =>
    rw [hj] at h
    cases o with
    | none => exact hsp j a a' w w' h (fun d hm => hd d (by simp [SV2S, hj]; exact hm)) hT
    | some p => exact (hd p.1 (by simp [SV2S, hj])).trans h

/-- the pages, of the call's own, where cut and the answer have left them -/
def OwnT (B K : Nat) (L : List ByteArray) (v : Value) (w : World) : Prop := w.ownsRow B 9 1 v K (strV L)
def SpSP (B K : Nat) (L : List ByteArray) (j : Nat) (a : Act) (w : World) : Prop := (j = 6 → OwnT B K L (a.tmps.getD 22 undef) w) ∧ (j = 7 → OwnT B K L (a.tmps.getD 4 undef) w)
theorem SpSP.ext (B K : Nat) (L : List ByteArray) : ∀ (j : Nat) (a a' : Act) (w w' : World), SpSP B K L j a w → (∀ d ∈ (if j = 6 then [22] else if j = 7 then [4] else []), a'.tmps.getD d undef = a.tmps.getD d undef) → Goes w w' → SpSP B K L j a' w' := by
  intro j a a' w w' h hd hT
  refine ⟨fun hj => ?_, fun hj => ?_⟩
  · subst hj
    rw [hd 22 (by simp)]
    exact ownsRow_afterX (h.1 rfl) hT
  · subst hj
    rw [hd 4 (by simp)]
    exact ownsRow_afterX (h.2 rfl) hT

/-- what each operation of the region SP leaves -/
def vsSP (B : Nat) (b l y n s r : Int) (A : Array Value) (tx : ByteArray) (K : Nat) : List (Option (Tmp × Value)) :=
  [some (16, .agg A), some (17, .string tx), some (18, .agg (gv b l y n s r)), some (19, .int .i64 (K : Int)), some (20, .pointer (some ⟨B, 2, none⟩)), some (21, .int .i64 y), none, none, some (5, .int .i64 0)]
/-- the frame while the region SP runs -/
def BaseSP (B : Nat) (a : Act) : Prop := ∃ u : Nat → Value, a = ⟨#[u 0, u 1, .pointer (some ⟨B, 0, none⟩), .pointer (some ⟨B + 1, 0, none⟩), u 4, u 5, u 6, u 7, u 8, u 9, u 10, u 11, u 12, u 13, u 14, u 15, u 16, u 17, u 18, u 19, u 20, u 21, u 22], []⟩
theorem BaseSP.of {B : Nat} (arr : Array Value) (h : arr = #[arr.getD 0 undef, arr.getD 1 undef, .pointer (some ⟨B, 0, none⟩), .pointer (some ⟨B + 1, 0, none⟩), arr.getD 4 undef, arr.getD 5 undef, arr.getD 6 undef, arr.getD 7 undef, arr.getD 8 undef, arr.getD 9 undef, arr.getD 10 undef, arr.getD 11 undef, arr.getD 12 undef, arr.getD 13 undef, arr.getD 14 undef, arr.getD 15 undef, arr.getD 16 undef, arr.getD 17 undef, arr.getD 18 undef, arr.getD 19 undef, arr.getD 20 undef, arr.getD 21 undef, arr.getD 22 undef]) : BaseSP B ⟨arr, []⟩ := ⟨fun i => arr.getD i undef, by rw [← h]⟩
theorem BaseSP.put16 {B : Nat} (a : Act) (v : Value) (h : BaseSP B a) : BaseSP B (a.put (some 16) v) := by
  obtain ⟨u, rfl⟩ := h
  exact ⟨fun i => if i = 16 then v else u i, by kernel_rfl⟩
theorem BaseSP.put17 {B : Nat} (a : Act) (v : Value) (h : BaseSP B a) : BaseSP B (a.put (some 17) v) := by
  obtain ⟨u, rfl⟩ := h
  exact ⟨fun i => if i = 17 then v else u i, by kernel_rfl⟩
theorem BaseSP.put18 {B : Nat} (a : Act) (v : Value) (h : BaseSP B a) : BaseSP B (a.put (some 18) v) := by
  obtain ⟨u, rfl⟩ := h
  exact ⟨fun i => if i = 18 then v else u i, by kernel_rfl⟩
theorem BaseSP.put19 {B : Nat} (a : Act) (v : Value) (h : BaseSP B a) : BaseSP B (a.put (some 19) v) := by
  obtain ⟨u, rfl⟩ := h
  exact ⟨fun i => if i = 19 then v else u i, by kernel_rfl⟩
theorem BaseSP.put20 {B : Nat} (a : Act) (v : Value) (h : BaseSP B a) : BaseSP B (a.put (some 20) v) := by
  obtain ⟨u, rfl⟩ := h
  exact ⟨fun i => if i = 20 then v else u i, by kernel_rfl⟩
theorem BaseSP.put21 {B : Nat} (a : Act) (v : Value) (h : BaseSP B a) : BaseSP B (a.put (some 21) v) := by
  obtain ⟨u, rfl⟩ := h
  exact ⟨fun i => if i = 21 then v else u i, by kernel_rfl⟩
theorem BaseSP.put22 {B : Nat} (a : Act) (v : Value) (h : BaseSP B a) : BaseSP B (a.put (some 22) v) := by
  obtain ⟨u, rfl⟩ := h
  exact ⟨fun i => if i = 22 then v else u i, by kernel_rfl⟩
theorem BaseSP.put4 {B : Nat} (a : Act) (v : Value) (h : BaseSP B a) : BaseSP B (a.put (some 4) v) := by
  obtain ⟨u, rfl⟩ := h
  exact ⟨fun i => if i = 4 then v else u i, by kernel_rfl⟩
theorem BaseSP.put5 {B : Nat} (a : Act) (v : Value) (h : BaseSP B a) : BaseSP B (a.put (some 5) v) := by
  obtain ⟨u, rfl⟩ := h
  exact ⟨fun i => if i = 5 then v else u i, by kernel_rfl⟩

set_option maxHeartbeats 4000000 in
theorem sn_put (w : World) (b l y n s r : Int) (A : Array Value) (x : Sn) (hA : SnAt w A x) :
    Calls Tryd.prog 7 #[.agg (gv b l y n s r), .agg A] w (PutS b l y n s r x w) := by
  obtain ⟨w2, hw2⟩ : ∃ w2, (w.alloc (.cells (gv b l y n s r) 23)).alloc (.cells A 26) = w2 := ⟨_, rfl⟩
  have hsw : SnW w b l y n s r A w2 := by rw [← hw2]; exact SnW.new _ _ _ _ _ _ _ _
  have hs4 : A.size = 4 := by obtain ⟨_, _, _, _, rfl, _⟩ := hA; rfl
  have HSZ : Hid ((Tryd.prog.info? 26).map (·.size) = some A.size) := by rw [hs4]; exact size_state
  have HSW := Lib.hid hsw
  have HW2 := Lib.hid hw2
  rcases chk_eq0 b l y n s r with ⟨hck, hok⟩ | ⟨hck, hok⟩
  · have HK := Lib.hid hck
    have HOK := Lib.hid hok
    have HFI : Hid (∀ w3, Below w2.heap.size w2 w3 → Calls Tryd.prog 18 #[.agg (gv b l y n s r), .agg A] w3 fun e w' => e = .returned (.bool (fitB b n x)) ∧ Below w3.heap.size w3 w') := fun w3 hb3 => sn_isof w3 b l y n s r A x hok ((hA.below hsw.2).below hb3)
    by_cases hfit : FitS b n x
    · have HFB : Hid (fitB b n x = true) := decide_eq_true hfit
      have HFT := Lib.hid hfit
      obtain ⟨N, hN⟩ : ∃ N : Nat, n = N := ⟨n.toNat, by have h := hok.1; unfold PreG at h; omega⟩
      obtain ⟨M, hM⟩ : ∃ M : Nat, b = M := ⟨b.toNat, by have h := hok.1; unfold PreG at h; omega⟩
      obtain ⟨Y, hY⟩ : ∃ Y : Nat, y = Y := ⟨y.toNat, by have h := hok.1; unfold PreG at h; omega⟩
      have hbd : N ≤ 4096 ∧ M ≤ 64 ∧ 16 ≤ Y ∧ Y ≤ 256 := by have h := hok.1; unfold PreG at h; omega
      obtain ⟨K, hK⟩ : ∃ K, (6 * N + 10 * M + (Y - 1)) / Y = K := ⟨_, rfl⟩
      have hkm := snaps_mul (T := 6 * N + 10 * M) (Y := Y) (by omega)
      have hks := snaps_nat M N Y (by omega)
      rw [hK] at hkm hks
      have hk60 : K * Y ≤ 25472 := by omega
      have hkk : K ≤ 25472 := by have h6 : K * 1 ≤ K * Y := Nat.mul_le_mul_left K (by omega); omega
      obtain ⟨tx, htx⟩ : ∃ tx, accK x M = tx := ⟨_, rfl⟩
      obtain ⟨T, hT⟩ : ∃ T, K * Y = T := ⟨_, rfl⟩
      have hlen : x.f.length = N ∧ x.c.length = M := by obtain ⟨⟨l1, _⟩, ⟨l2, _⟩, _⟩ := hfit; omega
      have htz : tx.size = 6 * N + 10 * M := by rw [← htx, accK_size, hlen.1]
      obtain ⟨L, hL⟩ : ∃ L, (List.range K).map (fun j => (padT tx (T - tx.size)).extract (j * Y) (j * Y + Y)) = L := ⟨_, rfl⟩
      have HLE : Hid (L = pgsN x K Y) := by
        show L = _
        rw [← hL]
        unfold pgsN
        congr 1
        funext j
        rw [← page_ext]
        unfold textN
        rw [hlen.1, hlen.2, htx, hT, htz]
      have hTB : T ≤ 100000 := by omega
      have HCT : Hid (∀ w3, Calls Tryd.prog 19 #[.string tx, .int .i64 (K : Int), .int .i64 y] w3 fun e w' => ∃ v, e = .returned v ∧ w'.ownsRow w3.heap.size 9 1 v K (strV L) ∧ Below w3.heap.size w3 w') := fun w3 => by
        rw [hY, ← hL]
        exact sn_cut tx K Y T w3 hT (by omega) hTB (by omega)
      have HTX : Hid (∀ w3, SnW w b l y n s r A w3 → Calls Tryd.prog 20 #[.agg A] w3 fun e w' => e = .returned (.string tx) ∧ Below w3.heap.size w3 w') := fun w3 h3 => by
        rw [← htx]
        exact sn_text w3 A x N M hbd.1 hbd.2.1 (hA.below h3.2) (by rw [← hM, ← hN]; exact hfit)
      have HKE : Hid (snapsG b y n = (K : Int)) := by rw [hM, hY, hN]; exact hks
      have HKS : Hid (∀ w3, Calls Tryd.prog 21 #[.agg (gv b l y n s r)] w3 fun e w' => e = .returned (.int .i64 (K : Int)) ∧ Below w3.heap.size w3 w') := fun w3 => by
        have h := ge_snaps b l y n s r w3 hok
        rw [HKE.out] at h
        exact h
      have HYE := Lib.hid hY
      clear hck hok hfit hN hM hY hbd hK hkm hks hk60 hkk htx hT hlen htz hL hTB hw2 hsw hs4 hA
      go_enter Tryd.func7, Tryd.ntmps7
      go_wp2_with (first
        | (change wpList _ _ _ _ _ ((w.alloc (.cells (gv b l y n s r) 23)).alloc (.cells A 26)); rw [HW2.out]; refine wpList_load_row rfl 23 (.tmp 2) rfl w.heap.size rfl 23 (gv b l y n s r) (0, 0) _ HSW.out.1.2.1 Tryd.underlying23 rfl size_geo ?_))
      refine (ge_check b l y n s r w2).mono ?_
      rintro e w3 ⟨rfl, hb3⟩
      rw [HK.out]
      have HB3 := Lib.hid hb3
      clear hb3
      go_wp2_with (first
        | (refine wpList_load_row rfl 23 (.tmp 2) rfl w.heap.size rfl 23 (gv b l y n s r) (0, 0) _ (HSW.out.call HB3.out).1.2.1 Tryd.underlying23 rfl size_geo ?_)
        | (refine wpList_load_row rfl 26 (.tmp 3) rfl (w.heap.size + 1) rfl 26 A (0, 0) _ (HSW.out.call HB3.out).1.2.2 Tryd.underlying26 rfl HSZ.out ?_))
      refine (HFI.out w3 HB3.out).mono ?_
      rintro e w4 ⟨rfl, hb4⟩
      rw [HFB.out]
      have HSW4 : Hid (SnW w b l y n s r A w4) := (HSW.out.call HB3.out).call hb4
      clear hb4 HB3 HFI HW2 HFB HK
      go_wp2_with fail
      rename_i K0 hK0
      refine wp_region_list3 (SV2S (vsSP w.heap.size b l y n s r A tx K) (fun j => if j = 6 then [22] else if j = 7 then [4] else [])) (BaseSP w.heap.size) (SnW w b l y n s r A) (Goes) (RV (vsSP w.heap.size b l y n s r A tx K) (SpSP w.heap.size K L)) rfl (by kernel_rfl) (RV.ext2S (f := fun j => if j = 6 then [22] else if j = 7 then [4] else []) (SpSP.ext _ _ _)) ?_ (HSW4.out.call (Below.refl _ _).drew) (BaseSP.of _ (by kernel_rfl)) ?_ ?_
      · exact ⟨BaseSP.put16, BaseSP.put17, BaseSP.put18, BaseSP.put19, BaseSP.put20, BaseSP.put21, BaseSP.put22, BaseSP.put4, BaseSP.put5, trivial⟩
      · refine ⟨?_, ?_, ?_, ?_, ?_, ?_, ?_, ?_, ?_, trivial⟩
        all_goals
          intro a w' hC hB hR
          obtain ⟨u, rfl⟩ := hB
          have HC := Lib.hid hC
          clear hC
          clear hK0
        · clear hR
          refine if_yes (by kernel_rfl) ?_
          exact wp_load_row 26 (.tmp 3) rfl (w.heap.size + 1) rfl 26 A (0, 0) _ HC.out.1.2.2 Tryd.underlying26 rfl HSZ.out ⟨.agg A, rfl, HC.out, Below.refl _ _, rfl⟩
        · have h16 : u 16 = .agg A := hR ⟨0, .data⟩ (by simp) rfl
          clear hR
          simp only [h16]
          clear h16
          refine if_yes (by kernel_rfl) ?_
          unfold Oper.wp
          go_simp
          refine (HTX.out _ HC.out).mono ?_
          rintro e w2 ⟨rfl, hb2⟩
          exact ⟨.string tx, rfl, HC.out.call hb2, hb2, rfl⟩
        · clear hR
          refine if_yes (by kernel_rfl) ?_
          exact wp_load_row 23 (.tmp 2) rfl w.heap.size rfl 23 (gv b l y n s r) (0, 0) _ HC.out.1.2.1 Tryd.underlying23 rfl size_geo ⟨.agg (gv b l y n s r), rfl, HC.out, Below.refl _ _, rfl⟩
        · have h18 : u 18 = .agg (gv b l y n s r) := hR ⟨2, .data⟩ (by simp) rfl
          clear hR
          simp only [h18]
          clear h18
          refine if_yes (by kernel_rfl) ?_
          unfold Oper.wp
          go_simp
          refine (HKS.out _).mono ?_
          rintro e w2 ⟨rfl, hb2⟩
          exact ⟨.int .i64 (K : Int), rfl, HC.out.call hb2, hb2, rfl⟩
        · clear hR
          refine if_yes (by kernel_rfl) ?_
          unfold Oper.wp
          go_simp
          exact ⟨.pointer (some ⟨w.heap.size, 2, none⟩), rfl, HC.out, Below.refl _ _, rfl⟩
        · have h20 : u 20 = .pointer (some ⟨w.heap.size, 2, none⟩) := hR ⟨4, .data⟩ (by simp) rfl
          have hc : w'.cell? ⟨w.heap.size, 2, none⟩ = some (.int .i64 y) := HC.out.geo.2.1
          clear hR
          simp only [h20]
          clear h20
          refine if_yes (by kernel_rfl) ?_
          unfold Oper.wp
          go_simp
          exact ⟨.int .i64 y, rfl, HC.out, Below.refl _ _, rfl⟩
        · have h17 : u 17 = .string tx := hR ⟨1, .data⟩ (by simp) rfl
          have h19 : u 19 = .int .i64 (K : Int) := hR ⟨3, .data⟩ (by simp) rfl
          have h21 : u 21 = .int .i64 y := hR ⟨5, .data⟩ (by simp) rfl
          clear hR
          simp only [h17, h19, h21]
          clear h17 h19 h21
          refine if_yes (by kernel_rfl) ?_
          unfold Oper.wp
          go_simp
          refine (HCT.out _).mono ?_
          rintro e w2 ⟨v, rfl, hown, hb2⟩
          exact ⟨v, rfl, HC.out.call hb2, hb2, ⟨fun _ => ownsRow_monoS hown (Nat.le_trans (Nat.le_add_right _ 2) HC.out.1.1), fun h => absurd h (by decide)⟩⟩
        · have hown := (hR ⟨6, .data⟩ (by simp) rfl).1 rfl
          clear hR
          refine if_yes (by kernel_rfl) ?_
          unfold Oper.wp
          go_simp
          exact ⟨u 22, rfl, HC.out, Below.refl _ _, ⟨fun h => absurd h (by decide), fun _ => hown⟩⟩
        · clear hR
          refine if_yes (by kernel_rfl) ?_
          unfold Oper.wp
          go_simp
          exact ⟨.int .i64 0, rfl, HC.out, Below.refl _ _, rfl⟩
      · intro a w' hC hB hR
        have h7 : OwnT w.heap.size K L (a.tmps.getD 4 undef) w' := (hR 7 (by decide)).2 rfl
        have h5 : a.tmps.getD 5 undef = .int .i64 0 := hR 8 (by decide)
        clear hR
        obtain ⟨u, rfl⟩ := hB
        have h5 : u 5 = .int .i64 0 := h5
        have h7 : OwnT w.heap.size K L (u 4) w' := h7
        simp only [h5]
        have H7 := Lib.hid h7
        have HB9 : Hid (Below w.heap.size w w') := hC.2
        clear h5 h7 hC
        go_wp2_with fail
        go_ret2
        refine ⟨fun h => absurd HOK.out h, fun _ h => absurd HFT.out h, fun _ _ => ⟨u 4, rfl, ?_⟩, HB9.out⟩
        have h8 := H7.out
        unfold OwnT at h8
        rw [HLE.out] at h8
        rw [HKE.out, HYE.out]
        exact h8
    · have HFB : Hid (fitB b n x = false) := decide_eq_false hfit
      have HFT := Lib.hid hfit
      clear hck hok hfit hw2 hsw hs4 hA
      go_enter Tryd.func7, Tryd.ntmps7
      go_wp2_with (first
        | (change wpList _ _ _ _ _ ((w.alloc (.cells (gv b l y n s r) 23)).alloc (.cells A 26)); rw [HW2.out]; refine wpList_load_row rfl 23 (.tmp 2) rfl w.heap.size rfl 23 (gv b l y n s r) (0, 0) _ HSW.out.1.2.1 Tryd.underlying23 rfl size_geo ?_))
      refine (ge_check b l y n s r w2).mono ?_
      rintro e w3 ⟨rfl, hb3⟩
      rw [HK.out]
      have HB3 := Lib.hid hb3
      clear hb3
      go_wp2_with (first
        | (refine wpList_load_row rfl 23 (.tmp 2) rfl w.heap.size rfl 23 (gv b l y n s r) (0, 0) _ (HSW.out.call HB3.out).1.2.1 Tryd.underlying23 rfl size_geo ?_)
        | (refine wpList_load_row rfl 26 (.tmp 3) rfl (w.heap.size + 1) rfl 26 A (0, 0) _ (HSW.out.call HB3.out).1.2.2 Tryd.underlying26 rfl HSZ.out ?_))
      refine (HFI.out w3 HB3.out).mono ?_
      rintro e w4 ⟨rfl, hb4⟩
      rw [HFB.out]
      have HB9 : Hid (Below w.heap.size w w4) := ((HSW.out.call HB3.out).call hb4).2
      clear hb4 HB3 HFI HW2 HFB HK
      go_wp2_with fail
      go_ret2
      exact ⟨fun h => absurd HOK.out h, fun _ _ => rfl, fun _ h => absurd h HFT.out, HB9.out⟩
  · have HK := Lib.hid hck
    have HNO := Lib.hid hok
    clear hck hok hw2 hsw hs4 hA
    go_enter Tryd.func7, Tryd.ntmps7
    go_wp2_with (first
      | (change wpList _ _ _ _ _ ((w.alloc (.cells (gv b l y n s r) 23)).alloc (.cells A 26)); rw [HW2.out]; refine wpList_load_row rfl 23 (.tmp 2) rfl w.heap.size rfl 23 (gv b l y n s r) (0, 0) _ HSW.out.1.2.1 Tryd.underlying23 rfl size_geo ?_))
    refine (ge_check b l y n s r w2).mono ?_
    rintro e w3 ⟨rfl, hb3⟩
    rw [HK.out]
    have HB9 : Hid (Below w.heap.size w w3) := (HSW.out.call hb3).2
    clear hb3
    go_wp2_with fail
    go_ret2
    exact ⟨fun _ => rfl, fun h => absurd h HNO.out, fun h => absurd h HNO.out, HB9.out⟩

end Go.Proofs.YtidakannaephoaaDoor
