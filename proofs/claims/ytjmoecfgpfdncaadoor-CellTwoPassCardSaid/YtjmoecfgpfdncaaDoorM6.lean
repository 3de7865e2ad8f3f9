/- Texts of one claim, merged: Rng, FrP, Shelf, Bld, BitsZ, FrC0, HamC1, HamC2, HamC3. -/
import Derived.RangeFuncNested
import Derived.RangeFuncBound
import Derived.RangeFuncCalls
import Derived.RangeFuncLeaves
import Derived.Shelf.Abstract
import Derived.Shelf.RegionOpen
import Derived.WalkKit
import Derived.OwnWalkIn
import Derived.TacticsInMore
import Derived.LoopNIn
import Derived.LoopIn
import Derived.Test.YtjmoecfgpfdncaaDoorM3
import Derived.Shelf.Strings.Builder2
import Derived.Shelf.Strings.BuilderK
import Derived.Shelf.Strings.Repeat
import Derived.Ground.SlgfProg
import Derived.Test.YtjmoecfgpfdncaaDoorChecked
import Derived.Test.YtjmoecfgpfdncaaDoorM2
import Derived.Lib.ConvBytes
import Derived.Lib.BufferWrite
import Derived.Test.YtjmoecfgpfdncaaDoorM4

/- A range over a function in a plain walk: the loop's law, how a function that holds one leaves, what a round keeps. -/
namespace Go.Proofs.YtjmoecfgpfdncaaDoor
open Go.RowKit

/-- a function that holds a range over a function: its contract from its body -/
theorem calls_of_marks {P : Program} {f : FuncId} {fn : Func} {c : Code} {args : Array Value} {w : World} {R : Ending → World → Prop} (hf : P.funcs[f]? = some fn) (hb : fn.body = some c)
    (h : c.wp P (bodyPostM Fence.wide 9 P fn R) { tmps := args ++ Array.replicate (fn.ntmps - args.size) undef, defers := [] } w) : Calls P f args w R :=
  callsIn_wide.1 (callsIn_of_wp_marks (n := 9) hf hb trivial (wpIn_wide.2 h))
/-- it leaves ahead of its loop -/
theorem leave_none {P : Program} {fn : Func} {R : Ending → World → Prop} {a : Act} {w : World} {v : Value} (hd : a.defers = []) (hr : (results fn a.tmps).run P w = .ok v w) (h : R (.returned v) w) : bodyPostM Fence.wide 9 P fn R .ret a w := by
  show LeavesInM Fence.wide 9 P fn a.tmps R a.defers .returning w
  rw [hd]
  exact ⟨v, hr, h⟩
/-- it leaves behind its loop -/
theorem leave_one {P : Program} {fn : Func} {R : Ending → World → Prop} {a : Act} {w : World} {v : Value} {D : Nat} (hd : a.defers = [{ target := .collected D, args := #[] }]) (hK : w.heap[D]? = some (.deferred (some [])))
    (hr : (results fn a.tmps).run P (w.putObj D (.deferred none)) = .ok v (w.putObj D (.deferred none))) (h : R (.returned v) (w.putObj D (.deferred none))) : bodyPostM Fence.wide 9 P fn R .ret a w := by
  show LeavesInM Fence.wide 9 P fn a.tmps R a.defers .returning w
  rw [hd]
  exact ⟨by simp, .inl ⟨_, _, rfl, run_takeDeferred hK, v, hr, h⟩⟩
theorem below_mark {w W : World} {D : Nat} (h : Below w.heap.size w W) (hD : w.heap.size ≤ D) (hK : W.heap[D]? = some (.deferred (some []))) : Below w.heap.size w (W.putObj D (.deferred none)) :=
  h.trans (belowK_b (w := w) (Nat.le_refl _) W D _ _ hD hK rfl rfl)
/-- what a round keeps, by what it leaves alone -/
theorem keeps_of_below {W W' : World} (B : Nat) (h : Below W.heap.size W W') : KeepsFrom B W W' :=
  ⟨h.size, fun k _ _ hk _ => (h.block k (Array.getElem?_eq_some_iff.1 hk).1).trans hk⟩
theorem keeps_set {W : World} (B : Nat) (a : Addr) (v : Value) : KeepsFrom B W (W.setCell a v) := (KeepsOthers.setCell W a v).from B
theorem blk_kept {W W' : World} {row : Option Nat} {b : Nat} {cs : Array Value} {t : TypeId} (h : Blk W b cs t) (hg : W.grownBy W' row) (hr : ∀ r, row = some r → ∃ o : Obj, W.heap[r]? = some o ∧ o.isCells = false) : Blk W' b cs t :=
  (hg.block b h.lt (fun e => by
    obtain ⟨o, ho, hc⟩ := hr b e.symm
    rw [show W.heap[b]? = _ from h] at ho
    cases ho
    cases hc)).trans h
theorem blk_mark {W : World} {D b : Nat} {cs : Array Value} {t : TypeId} (h : Blk W b cs t) (hK : W.heap[D]? = some (.deferred (some []))) : Blk (W.putObj D (.deferred none)) b cs t :=
  blk_kept h (grownBy_putObj' W D (.deferred none)) (fun r e => by cases e; exact ⟨_, hK, rfl⟩)

/-- these blocks lie as they lay: what an iterator that reads its own captured variables asks of a round -/
def KeepB (bs : List Nat) (W W' : World) : Prop := ∀ b ∈ bs, W'.heap[b]? = W.heap[b]?
theorem KeepB.refl (bs : List Nat) (W : World) : KeepB bs W W := fun _ _ => rfl
theorem KeepB.trans {bs : List Nat} {A B C : World} (h : KeepB bs A B) (k : KeepB bs B C) : KeepB bs A C := fun b hb => (k b hb).trans (h b hb)
theorem KeepB.cell {bs : List Nat} {W W' : World} (h : KeepB bs W W') {b i : Nat} (hb : b ∈ bs) : W'.cell? ⟨b, i, none⟩ = W.cell? ⟨b, i, none⟩ := by simp [World.cell?, h b hb]
theorem KeepB.of_below {bs : List Nat} {B : Nat} {W W' : World} (h : Below B W W') (hb : ∀ b ∈ bs, b < B) : KeepB bs W W' := fun b hm => h.block b (hb b hm)
theorem KeepB.set {bs : List Nat} {W : World} {g : Nat} (i : Nat) (v : Value) (hg : g ∉ bs) : KeepB bs W (W.setCell ⟨g, i, none⟩ v) :=
  fun b hm => Below.heap_setCell _ _ _ _ (fun e => hg (by simp only at e; rw [← e]; exact hm))
theorem KeepB.mark {bs : List Nat} {w : World} (hb : ∀ b ∈ bs, b < w.heap.size) (W : World) (l : Nat) (o o' : Obj) (hl : w.heap.size ≤ l) (_ : W.heap[l]? = some o) (_ : o.isCells = false) (_ : o.isWalk = false) : KeepB bs W (W.putObj l o') :=
  fun b hm => World.putObj_heap_other (fun e => by have := hb b hm; omega)

end Go.Proofs.YtjmoecfgpfdncaaDoor

/- The iterator of frame: a text, so many bytes at a time. -/
namespace Go.Proofs.YtjmoecfgpfdncaaDoor
set_option maxRecDepth 100000
open Go.RowKit
attribute [local go_sem] Oper.semAt_some

abbrev Str (m : Nat) := { x : ByteArray // x.size = m }
/-- the first k pieces of s, each of m bytes -/
def pcs (s : ByteArray) (m k : Nat) : List ByteArray := (List.range k).map fun j => s.extract (m * j) (m * j + m)
theorem pcs_succ (s : ByteArray) (m k : Nat) : pcs s m (k + 1) = pcs s m k ++ [s.extract (m * k) (m * k + m)] := by simp [pcs, List.range_succ]
theorem pcs_length (s : ByteArray) (m k : Nat) : (pcs s m k).length = k := by simp [pcs]

set_option maxRecDepth 100000 in
set_option maxHeartbeats 2000000 in
theorem pieces_in (n : Nat) (hn : 1 ≤ n) (l b1 b2 m : Nat) (s : ByteArray) (hm : 1 ≤ m) (hm2 : m ≤ 100) (hs : s.size ≤ 1000) (hd : m * (s.size / m) = s.size) (J Jx : List (Str m) → World → Prop)
    (hY : ∀ pre x W, J pre W → pre.length < s.size / m → YieldAt Fence.wide (n - 1) Tryd.prog l #[.string x.1] W fun e W' =>
      (e = .returned (.bool true) ∧ J (pre ++ [x]) W' ∧ KeepB [b1, b2] W W') ∨ (e = .returned (.bool false) ∧ Jx (pre ++ [x]) W'))
    (W : World) (h1 : W.cell? ⟨b1, 0, none⟩ = some (.string s)) (h2 : W.cell? ⟨b2, 0, none⟩ = some (.int .i64 m)) (h0 : J [] W) :
    CallsIn Fence.wide n Tryd.prog 65 #[.func (.yield l) #[] #[], .pointer (some ⟨b1, 0, none⟩), .pointer (some ⟨b2, 0, none⟩)] W fun e W' => (∃ v, e = .returned v) ∧
      ((∃ ys, ys.map (·.1) = pcs s m (s.size / m) ∧ J ys W') ∨ (∃ pre, (∃ k, k ≤ s.size / m ∧ pre.map (·.1) = pcs s m k) ∧ Jx pre W')) := by
  refine callsIn_of_wp Tryd.func65 rfl trivial ?_ rfl
  simp only [Tryd.ntmps65, List.size_toArray, List.length_cons, List.length_nil, Nat.reduceAdd, Nat.reduceSub, Array.replicate_succ, Array.replicate_zero, List.push_toArray, List.append_toArray, List.nil_append, List.cons_append]
  obtain ⟨c, hc⟩ : ∃ c, s.size / m = c := ⟨_, rfl⟩
  rw [hc] at hY hd ⊢
  have hlast : ∀ k, (k < c ↔ m * k < s.size) := by
    intro k
    rw [← hd]
    exact (Nat.mul_lt_mul_left (by omega)).symm
  have hroom : ∀ k, k < c → m * k + m ≤ s.size := by
    intro k hk
    rw [← hd, ← Nat.mul_succ]
    exact Nat.mul_le_mul_left _ hk
  gi_wp2
  gi_loopw [4] (fun i wr => ∃ (k : Nat) (pre : List (Str m)), k ≤ c ∧ i = .int .i64 ((m * k : Nat) : Int) ∧ pre.map (·.1) = pcs s m k ∧ J pre wr ∧ KeepB [b1, b2] W wr)
    (fun i _ => s.size + m - (intOf i).toNat)
  case atStart => exact ⟨0, [], Nat.zero_le _, rfl, rfl, h0, KeepB.refl _ _⟩
  case round =>
    obtain ⟨k, pre, hk, rfl, hp, hJ, hb⟩ := hrel
    have g1 : wr.cell? ⟨b1, 0, none⟩ = some (.string s) := (hb.cell (by simp)).trans h1
    have g2 : wr.cell? ⟨b2, 0, none⟩ = some (.int .i64 m) := (hb.cell (by simp)).trans h2
    obtain ⟨j, hj⟩ : ∃ j, m * k = j := ⟨_, rfl⟩
    rw [hj]
    by_cases hlt : k < c
    · have hjs : j + m ≤ s.size := by rw [← hj]; exact hroom k hlt
      have hjl : j < s.size := by rw [← hj]; exact (hlast k).1 hlt
      have hjli : (j : Int) < (s.size : Int) := by omega
      have hx : (s.extract j (j + m)).size = m := by rw [ByteArray.size_extract]; omega
      obtain ⟨fn, tmps, assign, body, hy, hR⟩ := hY pre ⟨s.extract j (j + m), hx⟩ wr hJ (by have := congrArg List.length hp; rw [pcs_length, List.length_map] at this; omega)
      dsimp only at hy
      have hjsi : (j : Int) + (m : Int) ≤ (s.size : Int) := by omega
      have hsn : pcs s m (k + 1) = pcs s m k ++ [s.extract j (j + m)] := by rw [pcs_succ, hj]
      gi_wp2
      refine hR.mono ?_
      rintro e W3 (⟨rfl, hJ3, hk3⟩ | ⟨rfl, hJx3⟩)
      · have g3 : W3.cell? ⟨b1, 0, none⟩ = some (.string s) := (hk3.cell (by simp)).trans g1
        have g4 : W3.cell? ⟨b2, 0, none⟩ = some (.int .i64 m) := (hk3.cell (by simp)).trans g2
        gi_wp2
        go_roundw
        case rel => exact ⟨k + 1, pre ++ [⟨_, hx⟩], by omega, by rw [Nat.mul_succ, hj]; go_num, by rw [List.map_append, hp, hsn]; rfl, hJ3, hb.trans hk3⟩
        case measure => simp [intOf]; omega
      · gi_wp2
        refine bodyPost_ret (results_none rfl _ _ _) rfl ?_
        exact ⟨⟨_, rfl⟩, .inr ⟨pre ++ [⟨_, hx⟩], ⟨k + 1, by omega, by rw [List.map_append, hp, hsn]; rfl⟩, hJx3⟩⟩
    · have hjs : ¬ (j : Int) < (s.size : Int) := by have h3 : ¬ m * k < s.size := fun h => hlt ((hlast k).2 h); rw [hj] at h3; omega
      obtain rfl : k = c := by omega
      gi_wp2
      go_end0
      exact ⟨⟨_, rfl⟩, .inl ⟨_, hp, hJ⟩⟩

theorem pieces_stops (n : Nat) (hn : 1 ≤ n) (b1 b2 m : Nat) (s : ByteArray) (hm : 1 ≤ m) (hm2 : m ≤ 100) (hs : s.size ≤ 1000) (hd : m * (s.size / m) = s.size) (w : World) (hb1 : b1 < w.heap.size) (hb2 : b2 < w.heap.size)
    (h1 : w.cell? ⟨b1, 0, none⟩ = some (.string s)) (h2 : w.cell? ⟨b2, 0, none⟩ = some (.int .i64 m)) :
    SeqStopsK Fence.wide n Tryd.prog 65 #[.pointer (some ⟨b1, 0, none⟩), .pointer (some ⟨b2, 0, none⟩)] (fun x : Str m => #[Value.string x.1]) (KeepB [b1, b2])
      (fun ys => ys.map (·.1) = pcs s m (s.size / m)) (fun pre => ∃ k, k ≤ s.size / m ∧ pre.map (·.1) = pcs s m k) (s.size / m) w := fun l J Jx W hW _ _ hY h0 => by
  exact pieces_in n hn l b1 b2 m s hm hm2 hs hd J Jx hY W ((hW.cell (p := ⟨b1, 0, none⟩) hb1).trans h1) ((hW.cell (p := ⟨b2, 0, none⟩) hb2).trans h2) h0

theorem pieces_any (s : ByteArray) (m : Int) (w : World) : Calls Tryd.prog 44 #[.string s, .int .i64 m] w fun r w' =>
    r = .returned (.func (.func 65) #[] #[.pointer (some ⟨w.heap.size, 0, none⟩), .pointer (some ⟨w.heap.size + 1, 0, none⟩)]) ∧ w' = (w.alloc (.cells #[.string s] 9)).alloc (.cells #[.int .i64 m] 3) := by
  go_enter Tryd.func44, Tryd.ntmps44
  go_wp2
  go_ret
  exact ⟨rfl, rfl⟩

end Go.Proofs.YtjmoecfgpfdncaaDoor

/-
  DERIVED: THE SHELF's CONTRACTS AT THIS DUMP, IN PLAIN WORDS (tools/lay-plain.mjs out of 'YtjmoecfgpfdncaaDoorShelf.lean', which tools/lay-shelf.mjs wrote): THE SAME DECLARATIONS UNDER THE SAME NAMES: 'import', 'namespace', 'open', 'def', 'theorem' AND NOTHING ELSE: no command of the shelf's: FOR A HAND-IN. Each laying: the table of numbers ('.._ren') and one theorem, a field a fact of the dump's own or the kernel's comparison; each contract: ONE APPLICATION.
-/
namespace Go.Proofs
open Go.Shelf
def Tryd.lays105_ren : Go.Shelf.Ren := ⟨fun | 105 => 26 | 212 => 49 | 99 => 50 | 165 => 43 | 166 => 47 | 170 => 51 | 169 => 48 | 263 => 69 | 264 => 70 | 206 => 71 | 240 => 63 | 241 => 64 | 276 => 82 | 277 => 83 | n => n, fun | 9 => 9 | 3 => 3 | 4 => 4 | 20 => 20 | 0 => 0 | 46 => 90 | 109 => 91 | 5 => 5 | 72 => 78 | 76 => 87 | 51 => 113 | 146 => 114 | 53 => 116 | 148 => 117 | 70 => 76 | 37 => 55 | 75 => 86 | 127 => 112 | 164 => 128 | 80 => 89 | n => n, fun | n => n⟩
theorem Tryd.lays105 : Go.Proofs.Lays.n105 Tryd.prog Tryd.lays105_ren := {
  mixed := by kernel_rfl
  f99 := Tryd.func50.trans (congrArg some (by kernel_rfl))
  f105 := Tryd.func26.trans (congrArg some (by kernel_rfl))
  f165 := Tryd.func43.trans (congrArg some (by kernel_rfl))
  f166 := Tryd.func47.trans (congrArg some (by kernel_rfl))
  f169 := Tryd.func48.trans (congrArg some (by kernel_rfl))
  f170 := Tryd.func51.trans (congrArg some (by kernel_rfl))
  f206 := Tryd.func71.trans (congrArg some (by kernel_rfl))
  f212 := Tryd.func49.trans (congrArg some (by kernel_rfl))
  f240 := Tryd.func63.trans (congrArg some (by kernel_rfl))
  f241 := Tryd.func64.trans (congrArg some (by kernel_rfl))
  f263 := Tryd.func69.trans (congrArg some (by kernel_rfl))
  f264 := Tryd.func70.trans (congrArg some (by kernel_rfl))
  f276 := Tryd.func82.trans (congrArg some (by kernel_rfl))
  f277 := Tryd.func83.trans (congrArg some (by kernel_rfl))
  t0 := Tryd.underlying0
  a0 := Tryd.isAgg0
  z0 := Tryd.sizeOf0
  v0 := Tryd.zeroValue0
  t3 := Tryd.underlying3
  a3 := Tryd.isAgg3
  z3 := Tryd.sizeOf3
  v3 := Tryd.zeroValue3
  t4 := Tryd.underlying4
  a4 := Tryd.isAgg4
  z4 := Tryd.sizeOf4
  v4 := Tryd.zeroValue4
  t5 := Tryd.underlying5
  a5 := Tryd.isAgg5
  z5 := Tryd.sizeOf5
  v5 := Tryd.zeroValue5
  t9 := Tryd.underlying9
  a9 := Tryd.isAgg9
  z9 := Tryd.sizeOf9
  v9 := Tryd.zeroValue9
  t20 := Tryd.underlying20
  a20 := Tryd.isAgg20
  z20 := Tryd.sizeOf20
  v20 := Tryd.zeroValue20
  t37 := Tryd.underlying55
  a37 := Tryd.isAgg55
  z37 := Tryd.sizeOf55
  v37 := Tryd.zeroValue55
  t46 := Tryd.underlying90
  a46 := Tryd.isAgg90
  z46 := Tryd.sizeOf90
  v46 := Tryd.zeroValue90
  t51 := Tryd.underlying113
  a51 := Tryd.isAgg113
  z51 := Tryd.sizeOf113
  v51 := Tryd.zeroValue113
  t53 := Tryd.underlying116
  a53 := Tryd.isAgg116
  z53 := Tryd.sizeOf116
  v53 := Tryd.zeroValue116
  t70 := Tryd.underlying76
  a70 := Tryd.isAgg76
  z70 := Tryd.sizeOf76
  v70 := Tryd.zeroValue76
  t72 := Tryd.underlying78
  a72 := Tryd.isAgg78
  z72 := Tryd.sizeOf78
  v72 := Tryd.zeroValue78
  t75 := Tryd.underlying86
  a75 := Tryd.isAgg86
  z75 := Tryd.sizeOf86
  v75 := Tryd.zeroValue86
  t76 := Tryd.underlying87
  a76 := Tryd.isAgg87
  z76 := Tryd.sizeOf87
  v76 := Tryd.zeroValue87
  t109 := Tryd.underlying91
  a109 := Tryd.isAgg91
  z109 := Tryd.sizeOf91
  v109 := Tryd.zeroValue91
  t127 := Tryd.underlying112
  a127 := Tryd.isAgg112
  z127 := Tryd.sizeOf112
  v127 := Tryd.zeroValue112
  t146 := Tryd.underlying114
  a146 := Tryd.isAgg114
  z146 := Tryd.sizeOf114
  v146 := Tryd.zeroValue114
  t148 := Tryd.underlying117
  a148 := Tryd.isAgg117
  z148 := Tryd.sizeOf117
  v148 := Tryd.zeroValue117
  t164 := Tryd.underlying128
  a164 := Tryd.isAgg128
  z164 := Tryd.sizeOf128
  v164 := Tryd.zeroValue128 }
theorem Tryd.Builder_Extra_105 : Builder.Extra Tryd.prog Tryd.lays105_ren := {
  sizeBuilder := by kernel_rfl
  liesBuilder := by kernel_rfl
  t5 := Tryd.underlying5
  a5 := Tryd.isAgg5
  z5 := Tryd.sizeOf5
  v5 := Tryd.zeroValue5
  infoByte := by kernel_rfl
  cellsByte := by kernel_rfl
  sizeByte := by kernel_rfl
  neB5 := by decide }
end Go.Proofs

/- A strings.Builder that a call has made itself, in a walk: the shelf's contracts at this program, over texts. -/
namespace Go.Proofs.YtjmoecfgpfdncaaDoor
set_option maxRecDepth 100000
open Go.RowKit

/-- a builder of the call's own, in block b, holds the text s -/
def Bld (B b : Nat) (s : ByteArray) (w : World) : Prop := Lib.IsBuilderF 78 5 B b (Lib.strCells s) w
theorem strCells_append (s t : ByteArray) : Lib.strCells s ++ Lib.strCells t = Lib.strCells (s ++ t) := by
  simp [Lib.strCells, ByteArray.data_append]
theorem Bld.le {B b : Nat} {s : ByteArray} {w : World} (h : Bld B b s w) : B ≤ b := by rcases h with h | h <;> exact h.1
theorem Bld.lt {B b : Nat} {s : ByteArray} {w : World} (h : Bld B b s w) : b < w.heap.size := by rcases h with h | h <;> exact h.lt
theorem Bld.drew {B b : Nat} {s : ByteArray} {w : World} (h : Bld B b s w) : Bld B b s w.drew := h
theorem Bld.alloc {B b : Nat} {s : ByteArray} {w : World} (h : Bld B b s w) (o : Obj) : Bld B b s (w.alloc o) := Lib.IsBuilderF.alloc h o
/-- it stands while a block that is no row of cells turns -/
theorem builderAt_kept {T e : TypeId} {B b : Nat} {p : Value} {bs : List Value} {W W' : World} {row : Option Nat} (h : Lib.BuilderAtF T e B b p bs W) (hg : W.grownBy W' row)
    (hr : ∀ r, row = some r → ∃ o : Obj, W.heap[r]? = some o ∧ o.isCells = false) : Lib.BuilderAtF T e B b p bs W' := by
  have hlt := h.lt
  obtain ⟨hB, v, hb, hown, hne⟩ := h
  refine ⟨hB, v, (hg.block b hlt fun hx => ?_).trans hb, hown.kept hg ?_, hne⟩
  · obtain ⟨o, ho, hc⟩ := hr b hx.symm
    rw [hb] at ho
    cases ho
    cases hc
  · cases hv : v.ownBlock with
    | none => exact Or.inl rfl
    | some g =>
      refine Or.inr fun hx => ?_
      obtain ⟨o, ho, hc⟩ := hr g hx.symm
      obtain ⟨c, fz, hcs⟩ := Lib.ownsRowF_kind hown g hv
      rw [hcs] at ho
      cases ho
      cases hc
theorem Bld.kept {B b : Nat} {s : ByteArray} {W W' : World} {row : Option Nat} (h : Bld B b s W) (hg : W.grownBy W' row) (hr : ∀ r, row = some r → ∃ o : Obj, W.heap[r]? = some o ∧ o.isCells = false) : Bld B b s W' :=
  h.imp (fun h => builderAt_kept h hg hr) (fun h => builderAt_kept h hg hr)
/-- it stands over a call that turns nothing that lay -/
theorem builderAt_after {T e : TypeId} {B b : Nat} {p : Value} {bs : List Value} {W W' : World} (h : Lib.BuilderAtF T e B b p bs W) (hb : Below W.heap.size W W') : Lib.BuilderAtF T e B b p bs W' := by
  have hlt := h.lt
  obtain ⟨hB, v, hk, hown, hne⟩ := h
  refine ⟨hB, v, (hb.block b hlt).trans hk, ?_, hne⟩
  refine ⟨hown.1, hown.2.imp id ?_⟩
  rintro ⟨g, cap, cur, fz, hv, hg, hc, hr⟩
  exact ⟨g, cap, cur, fz, hv, hg, (hb.block g (Array.getElem?_eq_some_iff.1 hc).1).trans hc, hr⟩
theorem Bld.after {B b : Nat} {s : ByteArray} {W W' : World} (h : Bld B b s W) (hb : Below W.heap.size W W') : Bld B b s W' :=
  h.imp (fun h => builderAt_after h hb) (fun h => builderAt_after h hb)
/-- it stands over a store into a block that is not its own and no row of bytes -/
theorem builderAt_set {T e : TypeId} {B b : Nat} {p : Value} {bs : List Value} {W : World} {x i : Nat} {cs : Array Value} {t : TypeId} (h : Lib.BuilderAtF T e B b p bs W) (hk : Blk W x cs t) (hx : x ≠ b) (ht : t ≠ e) (v : Value) : Lib.BuilderAtF T e B b p bs (W.setCell ⟨x, i, none⟩ v) := by
  obtain ⟨hB, u, hb, hown, hne⟩ := h
  refine ⟨hB, u, (Below.heap_setCell _ _ _ _ (fun hc => hx hc.symm)).trans hb, ?_, hne⟩
  refine ⟨hown.1, hown.2.imp id ?_⟩
  rintro ⟨g, cap, cur, fz, hv, hg, hc, hr⟩
  refine ⟨g, cap, cur, fz, hv, hg, (Below.heap_setCell _ _ _ _ (fun he => ?_)).trans hc, hr⟩
  have he2 : g = x := he
  rw [he2, show W.heap[x]? = _ from hk] at hc
  injection hc with hc
  injection hc with _ h2 _
  exact ht h2
theorem Bld.set {B b : Nat} {s : ByteArray} {W : World} {x i : Nat} {cs : Array Value} {t : TypeId} (h : Bld B b s W) (hk : Blk W x cs t) (hx : x ≠ b) (ht : t ≠ 5) (v : Value) : Bld B b s (W.setCell ⟨x, i, none⟩ v) :=
  h.imp (fun h => builderAt_set h hk hx ht v) (fun h => builderAt_set h hk hx ht v)
/-- what is no builder's and no row of bytes stands -/
theorem keepsFrom_others {b : Nat} {W W' : World} (B : Nat) (h : Lib.OthersKept 5 (some b) W W') (hz : W.heap.size ≤ W'.heap.size) (hbc : ∀ o : Obj, W.heap[b]? = some o → o.isCells = true) : KeepsFrom B W W' :=
  ⟨hz, fun k o _ hk hc => h k o hk (fun e => by cases e; rw [hbc o hk] at hc; cases hc) (fun c fz e => by rw [e] at hc; cases hc)⟩
theorem Bld.cells {B b : Nat} {s : ByteArray} {w : World} (h : Bld B b s w) : ∀ o : Obj, w.heap[b]? = some o → o.isCells = true := by
  intro o ho
  rcases h with ⟨_, v, hb, _⟩ | ⟨_, v, hb, _⟩
  all_goals
    rw [hb] at ho
    cases ho
    rfl
theorem keepB_others {b : Nat} {W W' : World} {bs : List Nat} (h : Lib.OthersKept 5 (some b) W W') (hbs : ∀ x ∈ bs, x ≠ b ∧ ∃ c t fz, W.heap[x]? = some (.cells c t fz) ∧ t ≠ 5) : KeepB bs W W' := by
  intro x hx
  obtain ⟨hne, c, t, fz, hc, ht⟩ := hbs x hx
  rw [h x _ hc (fun e => hne (by cases e; rfl)) (fun c' fz' e => ht (by cases e; rfl)), hc]

theorem blk_others {b x : Nat} {cs : Array Value} {t : TypeId} {W W' : World} (h : Lib.OthersKept 5 (some b) W W') (hk : Blk W x cs t) (hx : x ≠ b) (ht : t ≠ 5) : Blk W' x cs t :=
  h x _ hk (fun e => hx (by cases e; rfl)) (fun c fz e => ht (by cases e; rfl))
theorem keepB_two {b x y : Nat} {cx cy : Array Value} {tx ty : TypeId} {W W' : World} (h : Lib.OthersKept 5 (some b) W W') (hx : Blk W x cx tx) (hy : Blk W y cy ty) (hxb : x ≠ b) (hyb : y ≠ b) (htx : tx ≠ 5) (hty : ty ≠ 5) :
    KeepB [x, y] W W' := keepB_others h (fun z hz => by
  rcases List.mem_cons.1 hz with rfl | hz
  · exact ⟨hxb, _, _, _, hx, htx⟩
  · rw [List.mem_singleton.1 hz]; exact ⟨hyb, _, _, _, hy, hty⟩)
theorem deferred_others {b D : Nat} {d : Option (List Deferred)} {W W' : World} (h : Lib.OthersKept 5 (some b) W W') (hk : W.heap[D]? = some (.deferred d)) (hx : D ≠ b) : W'.heap[D]? = some (.deferred d) :=
  h D _ hk (fun e => hx (by cases e; rfl)) (fun c fz e => by cases e)

theorem bld_grow (B b n : Nat) (w : World) (hB : B ≤ b) (hbk : w.heap[b]? = some (.cells #[.pointer none, .slice none 0 0] 78 (0, 0))) (hBw : B ≤ w.heap.size) (hn : n ≤ 1000000) :
    Calls Tryd.prog 43 #[.pointer (some ⟨b, 0, none⟩), .int .i64 n] w fun e w' => e = .returned (.tuple #[]) ∧ Bld B b ByteArray.empty w' ∧ Below B w w' :=
  (Any.Builder_Grow_fresh { Tryd.lays105 with } Tryd.Builder_Extra_105 B b n w hB hbk hBw (by omega)).mono fun _ _ ⟨he, hb, hw⟩ => ⟨he, Lib.IsBuilderF.of (Or.inr hb), hw⟩
theorem bld_write (B b : Nat) (s t : ByteArray) (w : World) (h : Bld B b s w) (hn : s.size + t.size ≤ 1000000) :
    Calls Tryd.prog 47 #[.pointer (some ⟨b, 0, none⟩), .string t] w fun e w' =>
      e = .returned (.tuple #[.int .i64 t.size, .nilIface]) ∧ Bld B b (s ++ t) w' ∧ Below B w w' ∧ Lib.OthersKept 5 (some b) w w' :=
  (Any.Builder_WriteString_k { Tryd.lays105 with } Tryd.Builder_Extra_105 B b _ t w h (by rw [Lib.strCells_length]; omega) (Nat.le_of_lt (Nat.lt_of_le_of_lt h.le h.lt))).mono fun _ _ ⟨he, hb, hw, hk⟩ => ⟨he, Or.inr (by rw [← strCells_append]; exact hb), hw, hk⟩
theorem bld_string (B b : Nat) (s : ByteArray) (w : World) (h : Bld B b s w) :
    Calls Tryd.prog 48 #[.pointer (some ⟨b, 0, none⟩)] w fun e w' => e = .returned (.string s) ∧ Bld B b s w' ∧ Below B w w' ∧ Lib.OthersKept 5 (some b) w w' :=
  (Any.Builder_String_any_k { Tryd.lays105 with } Tryd.Builder_Extra_105 B b s.data.toList w h (Nat.le_of_lt (Nat.lt_of_le_of_lt h.le h.lt))).mono fun _ _ ⟨he, hb, hw, hk⟩ => ⟨he, hb, hw, hk⟩

end Go.Proofs.YtjmoecfgpfdncaaDoor

/- Contracts of package bits, as far as later layers lean on them: Zeros, Flip. -/
namespace Go.Proofs.YtjmoecfgpfdncaaDoor
set_option maxRecDepth 100000
open Go.RowKit

def ZOnesPost (n : Nat) (w : World) (e : Ending) (w' : World) : Prop := e = .returned (.int .i64 (pop8 n)) ∧ w = w'

set_option maxRecDepth 1000000 in
theorem zones_any (x : Int) (w : World) (h0 : 0 ≤ x) (h1 : x ≤ 255) :
    Calls Tryd.prog 73 #[.int .u8 x] w (ZOnesPost x.toNat w) := by
  go_enter Tryd.func73, Tryd.ntmps73
  go_wp2
  go_ret
  refine ⟨ret_int ?_, rfl⟩
  have hn : x.toNat < 256 := by omega
  rw [← getElem!_pos]
  generalize x.toNat = n at hn
  clear h0 h1
  revert n
  decide +kernel


theorem zxor_not (c : UInt8) : bits .xor .u8 IntKind.u8.max (c.toNat : Int) = 255 - (c.toNat : Int) := by
  have h : ∀ n : Nat, n < 256 → bits .xor .u8 IntKind.u8.max (n : Int) = 255 - (n : Int) := by decide +kernel
  exact h _ c.toNat_lt

theorem zones_not (c : UInt8) (w : World) :
    Calls Tryd.prog 73 #[.int .u8 (bits .xor .u8 IntKind.u8.max (c.toNat : Int))] w (ZOnesPost (255 - c.toNat) w) := by
  have hb : c.toNat < 256 := c.toNat_lt
  have h := zones_any (255 - (c.toNat : Int)) w (by omega) (by omega)
  rw [zxor_not, show 255 - c.toNat = (255 - (c.toNat : Int)).toNat by omega]; exact h


theorem zeros_any (s : ByteArray) (w : World) (hm : s.size ≤ 1000) :
    Calls Tryd.prog 53 #[.string s] w fun e w' => e = .returned (.int .i64 (zsTo s s.size)) ∧ w = w' := by
  go_enter Tryd.func53, Tryd.ntmps53
  go_wp2
  go_loop [3, 7] (fun t i => ∃ k : Nat, k ≤ s.size ∧ i = .int .i64 k ∧ t = .int .i64 (zsTo s k)) (fun _ i => s.size - (intOf i).toNat)
  case atStart => exact ⟨0, Nat.zero_le _, rfl, rfl⟩
  case round =>
    obtain ⟨k, hk, rfl, rfl⟩ := hrel
    have hz := zsTo_le s k hk
    by_cases hlt : k < s.size
    · have hb : s[k].toNat ≤ 255 := by have : s[k].toNat < 256 := s[k].toNat_lt; omega
      have HZ := Lib.hid (zsTo_succ s k hlt)
      have ho := pop8_le (255 - s[k].toNat)
      go_wp2_with fail
      refine (zones_not _ _).mono ?_
      rintro e w' ⟨rfl, rfl⟩
      go_wp2
      go_round
      case rel => exact ⟨k + 1, by omega, by go_num, by rw [HZ.out]; rfl⟩
      case measure => simp [intOf]; omega
    · obtain rfl : k = s.size := by omega
      go_wp2
      go_ret
      exact ⟨rfl, rfl⟩


theorem flip_no (s : ByteArray) (k : Int) (w : World) (hm : s.size ≤ maxLen) (hk : k ≤ 9223372036854775807) (h : k < 0 ∨ (s.size : Int) ≤ k / 8) :
    Calls Tryd.prog 87 #[.string s, .int .i64 k] w fun e w' => e = .returned (.tuple #[.string ByteArray.empty, .int .i64 1]) ∧ w = w' := by
  have hm2 : (s.size : Int) ≤ 9223372036854775807 := by unfold maxLen at hm; omega
  clear hm
  rcases h with h | h
  · go_enter Tryd.func87, Tryd.ntmps87
    go_wp2
    go_ret2
    exact ⟨rfl, rfl⟩
  · have h' : 0 ≤ k := by omega
    go_enter Tryd.func87, Tryd.ntmps87
    go_wp2
    go_ret2
    exact ⟨rfl, rfl⟩


theorem flip_yes (s : ByteArray) (i j : Nat) (w : World) (hm : s.size ≤ 1000) (hi : i < s.size) (hj : j < 8) :
    Calls Tryd.prog 87 #[.string s, .int .i64 (8 * (i : Int) + j)] w fun e w' => e = .returned (.tuple #[.string (flipS s i j), .int .i64 0]) ∧ Below w.heap.size w w' := by
  have hq : (8 * (i : Int) + j) / 8 = i := by omega
  have hr : (8 * (i : Int) + j) % 8 = j := by omega
  obtain ⟨cap, W1, hcv, hb1, hcs, hfz, _⟩ := bytes_of (P := Tryd.prog) (src := 9) (dst := 55) (e := 5) Tryd.underlying9 Tryd.underlying55 Tryd.underlying5 s w
  obtain ⟨c, hcc⟩ : ∃ c, (nums s).getD i 0 = c := ⟨_, rfl⟩
  have hc := hcs i (by rw [nums_length]; exact hi)
  rw [hcc] at hc
  have hf := hfz i hi
  have hcb := fun x : Int => (BytesAt.drew (hcs.set i x)).conv (P := Tryd.prog) (src := 55) (e := 5) (dst := 9) Tryd.underlying55 Tryd.underlying5 Tryd.underlying9 s.size cap (len_set _ _ _ _ (nums_length s))
  have HC := Lib.hid hcc
  have HB := Lib.hid hb1
  clear hcs hfz hcc hb1
  go_enter Tryd.func87, Tryd.ntmps87
  go_wp2
  go_region
  go_wp2
  go_ret2
  exact ⟨ret_str (by unfold flipS; rw [HC.out]), (HB.out.setCell (Nat.le_refl _) _).drew⟩


end Go.Proofs.YtjmoecfgpfdncaaDoor

/- Package frame, walked: what its parts ask of numbers; Hurt; Blank. -/
namespace Go.Proofs.YtjmoecfgpfdncaaDoor
set_option maxRecDepth 100000
open Go.RowKit

theorem fr_data (n : Int) (w : World) : Calls Tryd.prog 37 #[.int .i64 n] w fun r w' => r = .returned (.bool (decide (8 ≤ n ∧ n ≤ 256 ∧ n % 8 = 0))) ∧ w = w' := by
  go_enter Tryd.func37, Tryd.ntmps37
  go_wp2
  all_goals go_ret
  all_goals exact ⟨ret_bool (by rw [Bool.eq_iff_iff]; simp; try omega), rfl⟩
theorem fr_onChip (n : Int) (w : World) (h0 : 0 ≤ n) (h1 : n ≤ 1000) : Calls Tryd.prog 38 #[.int .i64 n] w fun r w' => r = .returned (.int .i64 ((n + 24) / 8 * 9)) ∧ w = w' := by
  go_enter Tryd.func38, Tryd.ntmps38
  go_wp2
  go_ret
  exact ⟨rfl, rfl⟩
theorem fr_chunks (n : Nat) (w : World) (h1 : n ≤ 1000) : Calls Tryd.prog 28 #[.int .i64 n] w fun r w' => r = .returned (.bool (decide (ShapeOk n))) ∧ w = w' := by
  rw [show decide (ShapeOk n) = decide ((n : Int) % 9 = 0 ∧ 8 ≤ (n : Int) / 9 * 8 - 24 ∧ (n : Int) / 9 * 8 - 24 ≤ 256) by rw [decide_eq_decide]; unfold ShapeOk; omega]
  go_enter Tryd.func28, Tryd.ntmps28
  go_wp2_with (first | (go_at_call 37; refine (fr_data _ _).mono ?_; rintro r w' ⟨rfl, rfl⟩) | go_in)
  all_goals go_ret
  all_goals exact ⟨ret_bool (by rw [Bool.eq_iff_iff]; simp; try omega), rfl⟩
theorem fr_rest (n by' : Int) (w : World) (h0 : 0 < by') (h1 : by' ≤ 1000) : Calls Tryd.prog 76 #[.int .i64 n, .int .i64 by'] w fun r w' => r = .returned (.int .i64 (n % by')) ∧ w = w' := by
  have hm := Int.tmod_eq_emod (a := n) (b := by')
  have hlt := Int.emod_lt_of_pos n h0
  have hge := Int.emod_nonneg n (b := by') (by omega)
  have hab : (by'.natAbs : Int) = by' := by omega
  obtain ⟨x, hx⟩ : ∃ x, n.tmod by' = x := ⟨_, rfl⟩
  obtain ⟨y, hy⟩ : ∃ y, n % by' = y := ⟨_, rfl⟩
  rw [hx, hy] at hm
  rw [hy] at hlt hge ⊢
  have hb' : by' ≠ 0 := by omega
  have hxy : x = y ∨ x = y - by' := by
    by_cases hc : 0 ≤ n ∨ by' ∣ n
    · rw [if_pos hc] at hm; omega
    · rw [if_neg hc, hab] at hm; omega
  have hlo : -1000 ≤ x := by omega
  have hhi : x ≤ 1000 := by omega
  have hz : (x + by').tmod by' = y := by
    rw [Int.tmod_eq_emod_of_nonneg (by omega)]
    rcases hxy with rfl | rfl
    · rw [Int.add_emod_right, Int.emod_eq_of_lt hge hlt]
    · rw [show y - by' + by' = y by omega, Int.emod_eq_of_lt hge hlt]
  clear hm hxy
  go_enter Tryd.func76, Tryd.ntmps76
  go_wp2
  go_ret
  exact ⟨rfl, rfl⟩
theorem fr_turned (s : ByteArray) (k : Nat) (w : World) (hm : s.size ≤ 1000) (hk : k / 8 < s.size) :
    Calls Tryd.prog 77 #[.string s, .int .i64 k] w fun r w' => r = .returned (.string (flipS s (k / 8) (k % 8))) ∧ Below w.heap.size w w' := by
  have h := flip_yes s (k / 8) (k % 8) w hm hk (by omega)
  rw [show 8 * ((k / 8 : Nat) : Int) + ((k % 8 : Nat) : Int) = (k : Int) by omega] at h
  go_enter Tryd.func77, Tryd.ntmps77
  go_wp2_with fail
  refine h.mono ?_
  rintro r w1 ⟨rfl, hb1⟩
  have HB1 := Lib.hid hb1
  clear hb1 h
  go_wp2
  go_ret
  exact ⟨rfl, HB1.out⟩

theorem fr_hurt (s : ByteArray) (a b : Int) (w : World) (hs : s.size ≤ 1000) :
    Calls Tryd.prog 58 #[.string s, .int .i64 a, .int .i64 b] w fun r w' => r = .returned (.string (hurtT s a b)) ∧ Below w.heap.size w w' := by
  unfold hurtT
  by_cases h9 : s.size < 9
  · rw [if_pos h9]
    have h9i : (s.size : Int) < 9 := by omega
    go_enter Tryd.func58, Tryd.ntmps58
    go_wp2
    go_ret
    exact ⟨rfl, Below.refl _ _⟩
  · rw [if_neg h9]
    have h9i : ¬ (s.size : Int) < 9 := by omega
    obtain ⟨p, hp⟩ : ∃ p, first72 a = p := ⟨_, rfl⟩
    obtain ⟨q, hq⟩ : ∃ q, second72 a b = q := ⟨_, rfl⟩
    obtain ⟨m, hm⟩ : ∃ m : Nat, (b % 71).toNat = m := ⟨_, rfl⟩
    have hpa : a % 72 = (p : Int) := by rw [← hp]; unfold first72; omega
    have hmb : b % 71 = (m : Int) := by omega
    have hp72 : p < 72 := by omega
    have hm71 : m < 71 := by omega
    have hqe : q = (p + 1 + m) % 72 := by rw [← hq]; unfold second72; rw [hp, hm]
    have hqi : (((p : Int) + 1 + (m : Int)) % 72) = (q : Int) := by omega
    have hq72 : q < 72 := by omega
    rw [hp, hq]
    have HPA := Lib.hid hpa
    have HMB := Lib.hid hmb
    clear hp hq hm hpa hmb hqe
    go_enter Tryd.func58, Tryd.ntmps58
    go_wp2_with fail
    refine (fr_rest a 72 _ (by decide) (by decide)).mono ?_
    rintro r w' ⟨rfl, rfl⟩
    rw [HPA.out]
    go_wp2_with fail
    refine (fr_rest b 71 _ (by decide) (by decide)).mono ?_
    rintro r w' ⟨rfl, rfl⟩
    rw [HMB.out]
    go_wp2_with fail
    refine (fr_turned s p _ hs (by omega)).mono ?_
    rintro r w1 ⟨rfl, hb1⟩
    have HB1 := Lib.hid hb1
    have hz : (flipS s (p / 8) (p % 8)).size = s.size := flipS_size _ _ _ (by omega)
    obtain ⟨t, ht⟩ : ∃ t, flipS s (p / 8) (p % 8) = t := ⟨_, rfl⟩
    rw [ht] at hz ⊢
    have HT := Lib.hid ht
    clear ht hb1
    go_wp2_with fail
    refine (fr_turned t q _ (by omega) (by omega)).mono ?_
    rintro r w2 ⟨rfl, hb2⟩
    have HB2 := Lib.hid (HB1.out.trans (hb2.mono HB1.out.size))
    clear hb2
    go_wp2_with fail
    go_ret
    exact ⟨by rw [HT.out]; rfl, HB2.out⟩

theorem rep_ff (c : Nat) : (⟨(Lib.repeatL (⟨#[255]⟩ : ByteArray).data.toList c).toArray⟩ : ByteArray) = ⟨(List.replicate c 255).toArray⟩ := by
  have h : ∀ c, Lib.repeatL (⟨#[255]⟩ : ByteArray).data.toList c = List.replicate c 255 := fun c => by
    induction c with
    | zero => rfl
    | succ c ih => rw [List.replicate_succ, ← ih]; rfl
  rw [h]
theorem fr_blank (n : Int) (w : World) : Calls Tryd.prog 21 #[.int .i64 n] w fun r w' => r = .returned (.string (blankT n)) ∧ Below w.heap.size w w' := by
  unfold blankT
  by_cases hm : 0 ≤ n ∧ LenOk n.toNat
  · rw [if_pos hm]
    have HD : Hid (decide (8 ≤ n ∧ n ≤ 256 ∧ n % 8 = 0) = true) := by obtain ⟨h0, h1, h2, h3⟩ := hm; exact decide_eq_true (by omega)
    obtain ⟨h0, h1, h2, h3⟩ := hm
    obtain ⟨c, hc⟩ : ∃ c, (n.toNat + 24) / 8 * 9 = c := ⟨_, rfl⟩
    have HC : Hid ((n + 24) / 8 * 9 = (c : Int)) := by show (n + 24) / 8 * 9 = (c : Int); omega
    have hc400 : c ≤ 400 := by omega
    have HB : Hid (blankS n.toNat = ⟨(List.replicate c 255).toArray⟩) := by unfold blankS; rw [hc]; exact rfl
    have hn256 : n ≤ 256 := by omega
    clear hc h1 h2 h3
    go_enter Tryd.func21, Tryd.ntmps21
    go_wp2_with fail
    refine (fr_data n _).mono ?_
    rintro r w' ⟨rfl, rfl⟩
    rw [HD.out]
    go_wp2_with fail
    refine (fr_onChip n _ h0 (by omega)).mono ?_
    rintro r w' ⟨rfl, rfl⟩
    rw [HC.out]
    go_wp2_with fail
    refine (Any.strings_Repeat Tryd.lays105 Tryd.Builder_Extra_105 _ c _ (by omega) (by show 1 * c ≤ _; omega)).mono ?_
    rintro r w1 ⟨rfl, hb1⟩
    rw [rep_ff]
    have HB1 := Lib.hid hb1
    clear hb1
    go_wp2_with fail
    go_ret
    exact ⟨by rw [HB.out]; rfl, HB1.out⟩
  · rw [if_neg hm]
    have HD : Hid (decide (8 ≤ n ∧ n ≤ 256 ∧ n % 8 = 0) = false) := decide_eq_false (fun h => hm ⟨by omega, by omega, by omega, by omega⟩)
    clear hm
    go_enter Tryd.func21, Tryd.ntmps21
    go_wp2_with fail
    refine (fr_data n _).mono ?_
    rintro r w' ⟨rfl, rfl⟩
    rw [HD.out]
    go_wp2_with fail
    go_ret
    exact ⟨rfl, Below.refl _ _⟩

end Go.Proofs.YtjmoecfgpfdncaaDoor

/- Plain facts for the code of package ham: what is left of the places, byte by byte, and how many bits are 1, taken together. -/
namespace Go.Proofs.YtjmoecfgpfdncaaDoor
set_option maxRecDepth 100000
open Go.RowKit

/-- the places of a byte's bits, put together -/
def leftB (k b : Nat) : Nat → Nat
  | 0 => 0
  | j + 1 => leftB k b j ^^^ (if b.testBit j then place (8 * k + j) else 0)
theorem left_seg (M k b : Nat) : ∀ j, (∀ i, i < j → M.testBit (8 * k + i) = b.testBit i) → left M (8 * k + j) = left M (8 * k) ^^^ leftB k b j
  | 0, _ => by show _ = left M (8 * k) ^^^ 0; rw [Nat.xor_zero]; rfl
  | j + 1, h => by
    show left M (8 * k + j) ^^^ (if M.testBit (8 * k + j) then place (8 * k + j) else 0) = left M (8 * k) ^^^ (leftB k b j ^^^ (if b.testBit j then place (8 * k + j) else 0))
    rw [left_seg M k b j (fun i hi => h i (by omega)), h j (by omega), Nat.xor_assoc]
theorem cnt_seg (M k b : Nat) : ∀ j, (∀ i, i < j → M.testBit (8 * k + i) = b.testBit i) → cnt M (8 * k + j) = cnt M (8 * k) + cnt b j
  | 0, _ => rfl
  | j + 1, h => by
    show cnt M (8 * k + j) + (if M.testBit (8 * k + j) then 1 else 0) = cnt M (8 * k) + (cnt b j + (if b.testBit j then 1 else 0))
    rw [cnt_seg M k b j (fun i hi => h i (by omega)), h j (by omega), Nat.add_assoc]
/-- the lowest bit that is 1 -/
def tz (b : Nat) : Nat := if b % 2 = 1 then 0 else if b / 2 % 2 = 1 then 1 else if b / 4 % 2 = 1 then 2 else if b / 8 % 2 = 1 then 3 else if b / 16 % 2 = 1 then 4 else if b / 32 % 2 = 1 then 5 else if b / 64 % 2 = 1 then 6 else 7
theorem tz_lt (b : Nat) : tz b < 8 := by
  unfold tz
  repeat' split
  all_goals decide
theorem low_lt : ∀ b, b < 256 → 0 < b → (b &&& (b - 1)) < b := by decide +kernel
theorem low_bits : ∀ b : Nat, b < 256 → 0 < b → bits .and .u8 (b : Int) ((b : Int) - 1) = ((b &&& (b - 1) : Nat) : Int) := by decide +kernel
theorem leftB_low : ∀ k, k < 8 → ∀ b, b < 256 → 0 < b → leftB k b 8 = place (8 * k + tz b) ^^^ leftB k (b &&& (b - 1)) 8 := by decide +kernel
theorem leftB_zero : ∀ k, k < 9 → leftB k 0 8 = 0 := by decide +kernel
theorem leftB_check : ∀ b, b < 256 → leftB 8 b 8 = b % 128 := by decide +kernel
theorem xor_u8 (a b : Nat) (ha : a < 256) (hb : b < 256) : bits .xor .u8 (a : Int) (b : Int) = ((a ^^^ b : Nat) : Int) := by
  have hx : a ^^^ b < 2 ^ 8 := Nat.xor_lt_two_pow (by omega) (by omega)
  have h1 : (BitVec.ofInt 8 (a : Int)).toNat = a := by
    rw [BitVec.ofInt_natCast, BitVec.toNat_ofNat]; exact Nat.mod_eq_of_lt (by omega)
  have h2 : (BitVec.ofInt 8 (b : Int)).toNat = b := by
    rw [BitVec.ofInt_natCast, BitVec.toNat_ofNat]; exact Nat.mod_eq_of_lt (by omega)
  show IntKind.u8.wrap ((BitVec.ofInt 8 (a : Int) ^^^ BitVec.ofInt 8 (b : Int)).toNat : Int) = _
  rw [BitVec.toNat_xor, h1, h2, IntKind.wrap_u8]
  omega
theorem not_top : ∀ b : Nat, b < 256 → bits .andNot .u8 (b : Int) 128 = ((b % 128 : Nat) : Int) := by decide +kernel
theorem or_top : ∀ b : Nat, b < 128 → bits .or .u8 (b : Int) 128 = ((b + 128 : Nat) : Int) := by decide +kernel

/-- a chunk's bytes as cells -/
def ca (l : List UInt8) : Array Value := (Lib.byteCells l).toArray
theorem ca_size (l : List UInt8) : (ca l).size = l.length := by simp [ca, Lib.byteCells]
theorem ca_at (l : List UInt8) (i : Nat) (h : i < l.length) : (ca l)[i]? = some (.int .u8 ((l.getD i 0).toNat : Int)) := by
  simp [ca, Lib.byteCells, h, List.getD]
theorem ca_set (l : List UInt8) (i n : Nat) (hn : n < 256) : (ca l).setIfInBounds i (.int .u8 (n : Int)) = ca (l.set i (UInt8.ofNat n)) := by
  have e : (Value.int .u8 (n : Int)) = .int .u8 ((UInt8.ofNat n).toNat : Int) := by
    congr 1
    simp
    omega
  simp [ca, Lib.byteCells, List.map_set, e]
/-- a byte of a chunk -/
def by_ (l : List UInt8) (i : Nat) : Nat := (l.getD i 0).toNat
theorem by_lt (l : List UInt8) (i : Nat) : by_ l i < 256 := (l.getD i 0).toNat_lt
theorem ca_by (l : List UInt8) (i : Nat) (h : i < l.length) : (ca l)[i]? = some (.int .u8 (by_ l i : Int)) := ca_at l i h
theorem by_bit (l : List UInt8) (k i : Nat) (hk : k < l.length) (hi : i < 8) : (numN l).testBit (8 * k + i) = (by_ l k).testBit i :=
  numN_bit l k i _ (by simp [List.getD, hk]) hi
theorem left_by (l : List UInt8) (k : Nat) (hk : k < l.length) : left (numN l) (8 * (k + 1)) = left (numN l) (8 * k) ^^^ leftB k (by_ l k) 8 :=
  left_seg _ _ _ 8 fun i hi => by_bit l k i hk hi
theorem cnt_by (l : List UInt8) (k : Nat) (hk : k < l.length) : cnt (numN l) (8 * (k + 1)) = cnt (numN l) (8 * k) + cnt (by_ l k) 8 :=
  cnt_seg _ _ _ 8 fun i hi => by_bit l k i hk hi

/-- the state of the loop over the bytes: the check's places, and those of the first k bytes -/
def lp (l : List UInt8) (k : Nat) : Nat := by_ l 8 % 128 ^^^ left (numN l) (8 * k)
theorem lp_zero (l : List UInt8) : lp l 0 = by_ l 8 % 128 := by unfold lp; show _ ^^^ 0 = _; rw [Nat.xor_zero]
theorem lp_lt (l : List UInt8) (k : Nat) : lp l k < 128 := Nat.xor_lt_two_pow (n := 7) (Nat.mod_lt _ (by decide)) (left_lt _ _)
theorem lp_succ (l : List UInt8) (k : Nat) (hk : k < l.length) : lp l (k + 1) = lp l k ^^^ leftB k (by_ l k) 8 := by
  unfold lp; rw [left_by l k hk, Nat.xor_assoc]
theorem lp_all (l : List UInt8) (h : l.length = 9) : lp l 8 = left (numN l) 72 := by
  have h1 := left_by l 8 (by omega)
  have h2 : left (numN l) 72 = left (numN l) 64 ^^^ leftB 8 (by_ l 8) 8 := h1
  unfold lp
  rw [h2, leftB_check _ (by_lt l 8), Nat.xor_comm]

/-- the first k bytes put together -/
def xa (l : List UInt8) : Nat → Nat
  | 0 => 0
  | k + 1 => xa l k ^^^ by_ l k
theorem xa_lt (l : List UInt8) : ∀ k, xa l k < 256
  | 0 => by show (0 : Nat) < 256; decide
  | k + 1 => Nat.xor_lt_two_pow (n := 8) (xa_lt l k) (by_lt l k)
theorem xa_cnt (l : List UInt8) : ∀ k, k ≤ l.length → cnt (xa l k) 8 % 2 = cnt (numN l) (8 * k) % 2
  | 0, _ => by show cnt 0 8 % 2 = _; rw [cnt_zero]; rfl
  | k + 1, h => by
    show cnt (xa l k ^^^ by_ l k) 8 % 2 = _
    rw [cnt_xor, cnt_by l k (by omega)]
    have := xa_cnt l k (by omega)
    omega
/-- is the number of its bits that are 1 odd? -/
def oddB (l : List UInt8) : Bool := decide (cnt (numN l) 72 % 2 = 1)

/-- the place p's bit turned, if it is among the eight bytes -/
def turnL (l : List UInt8) (p k : Nat) : List UInt8 := if idx p < k then fl l (idx p / 8) (idx p % 8) else l
theorem turnL_length (l : List UInt8) (p k : Nat) : (turnL l p k).length = l.length := by unfold turnL; split; exact fl_length _ _ _; rfl
theorem turnL_zero (l : List UInt8) (p : Nat) : turnL l p 0 = l := rfl
theorem idx_eq {p k x : Nat} (hp : p ≤ 71) (hk : k < 72) (hx : place k = x) (h : x = p) : idx p = k := by
  subst h; subst hx; exact idx_place hk
theorem turnL_hit (l : List UInt8) (p k x : Nat) (hp : p ≤ 71) (hk : k < 64) (hx : place k = x) (h : x = p) : turnL l p k = l ∧ turnL l p (k + 1) = fl l (k / 8) (k % 8) := by
  have e := idx_eq hp (by omega) hx h
  unfold turnL
  rw [e]
  exact ⟨if_neg (by omega), if_pos (by omega)⟩
theorem turnL_miss (l : List UInt8) (p k x : Nat) (hp : p ≤ 71) (hx : place k = x) (h : x ≠ p) : turnL l p (k + 1) = turnL l p k := by
  have e : idx p ≠ k := by
    intro e
    have := (place_idx hp).2
    rw [e] at this
    omega
  unfold turnL
  by_cases h2 : idx p < k
  · rw [if_pos (by omega), if_pos h2]
  · rw [if_neg (by omega), if_neg h2]
theorem fb_nat (c : UInt8) (j : Nat) (hj : j < 8) : (fb c j).toNat = c.toNat ^^^ 2 ^ j := by
  have h : ∀ n, n < 256 → ∀ j, j < 8 → (fb (UInt8.ofNat n) j).toNat = n ^^^ 2 ^ j := by decide +kernel
  have := h _ c.toNat_lt j hj
  rwa [UInt8.ofNat_toNat] at this
theorem ca_flip (l : List UInt8) (q r : Nat) (hr : r < 8) : (ca l).setIfInBounds q (.int .u8 ((by_ l q ^^^ 2 ^ r : Nat) : Int)) = ca (fl l q r) := by
  have hx : by_ l q ^^^ 2 ^ r < 256 := Nat.xor_lt_two_pow (n := 8) (by_lt l q) (Nat.pow_lt_pow_right (by decide) hr)
  rw [ca_set _ _ _ hx]
  unfold fl
  congr 2
  apply UInt8.toNat_inj.1
  rw [fb_nat _ _ hr]
  show _ % 256 = _
  exact Nat.mod_eq_of_lt hx

/-- the places of the 64 bits, as the program's table has them -/
def plA : Array Value := ((List.range 64).map fun i => Value.int .u8 ((place i : Nat) : Int)).toArray
theorem plA_at (k : Nat) (hk : k < 64) : plA[k]? = some (.int .u8 ((place k : Nat) : Int)) := by
  simp [plA, hk]

end Go.Proofs.YtjmoecfgpfdncaaDoor

/- Contracts of package ham: left, isOdd, turned. -/
namespace Go.Proofs.YtjmoecfgpfdncaaDoor
set_option maxRecDepth 100000
open Go.RowKit

set_option maxRecDepth 1000000 in
theorem tz_any (b : Nat) (w : World) (h0 : 0 < b) (h1 : b < 256) :
    Calls Tryd.prog 85 #[.int .u8 b] w fun e w' => e = .returned (.int .i64 (tz b : Nat)) ∧ w = w' := by
  go_enter Tryd.func85, Tryd.ntmps85
  go_wp2
  go_ret
  refine ⟨ret_int ?_, rfl⟩
  rw [← getElem!_pos]
  revert h0
  revert b
  decide +kernel

set_option maxRecDepth 1000000 in
theorem ones_any (b : Nat) (w : World) (h1 : b < 256) :
    Calls Tryd.prog 73 #[.int .u8 b] w fun e w' => e = .returned (.int .i64 (cnt b 8 : Nat)) ∧ w = w' := by
  go_enter Tryd.func73, Tryd.ntmps73
  go_wp2
  go_ret
  refine ⟨ret_int ?_, rfl⟩
  rw [← getElem!_pos]
  revert b
  decide +kernel

theorem size_ca (l : List UInt8) (hl : l.length = 9) : (Tryd.prog.info? 109).map (·.size) = some (ca l).size := by rw [ca_size, hl]; kernel_rfl
theorem index_ca (l : List UInt8) (hl : l.length = 9) (k : Nat) (hk : k < 9) (w : World) : (Instr.index 109 (.agg (ca l)) (.int .i64 (k : Int))).run Tryd.prog w = .ok (.int .u8 (by_ l k : Int)) w := by
  obtain ⟨i0, hi, hz0, hz1, hz2⟩ := info_parts Tryd.infoU8
  have h := ca_by l k (by omega)
  have h2 : k < (ca l).size := by rw [ca_size]; omega
  have hu := Tryd.underlying109
  simp [Instr.index, asIntOf, run_underlying hu, hk, part, sizeOf, typeInfo, hi, hz1, isAgg, run_underlying Tryd.underlying5, h, go_sem]

theorem odd_eq (l : List UInt8) (hl : l.length = 9) (n : Nat) (h : cnt (xa l 9) 8 = n) : ((n : Int) % 2 == 1) = oddB l := by
  have h1 := xa_cnt l 9 (by omega)
  rw [h, show 8 * 9 = 72 from rfl] at h1
  unfold oddB
  rw [← h1]
  by_cases h2 : n % 2 = 1
  · rw [decide_eq_true h2]; simp; omega
  · rw [decide_eq_false h2]; simp; omega

theorem ham_odd (l : List UInt8) (w : World) (hl : l.length = 9) :
    Calls Tryd.prog 68 #[.agg (ca l)] w fun e w' => e = .returned (.bool (oddB l)) ∧ Below w.heap.size w w' := by
  have hs := size_ca l hl
  have HI := Lib.hid (fun k hk w => index_ca l hl k hk w)
  have HL := Lib.hid hl
  clear hl
  go_enter Tryd.func68, Tryd.ntmps68
  go_wp2_with (refine wpList_load_row rfl 109 (.tmp 1) rfl w.heap.size rfl 109 (ca l) (0, 0) _ (heap_alloc_new _ _) Tryd.underlying109 rfl hs ?_)
  go_loop [3, 7] (fun x i => ∃ k : Nat, k ≤ 9 ∧ i = .int .i64 k ∧ x = .int .u8 (xa l k : Nat)) (fun _ i => 9 - (intOf i).toNat)
  case atStart => exact ⟨0, by omega, rfl, rfl⟩
  case round =>
    obtain ⟨k, hk, rfl, rfl⟩ := hrel
    by_cases hlt : k < 9
    · have hi := HI.out k hlt
      have hx := xor_u8 (xa l k) (by_ l k) (xa_lt l k) (by_lt l k)
      have HX : Hid (xa l (k + 1) = xa l k ^^^ by_ l k) := rfl
      obtain ⟨x, hxe⟩ : ∃ x, xa l k = x := ⟨_, rfl⟩
      obtain ⟨b, hbe⟩ : ∃ b, by_ l k = b := ⟨_, rfl⟩
      rw [hxe, hbe] at HX hx
      rw [hbe] at hi
      rw [hxe]
      clear hxe hbe
      go_wp2
      go_round
      case rel => exact ⟨k + 1, by omega, by go_num, by rw [HX.out]⟩
      case measure => simp [intOf]; omega
    · obtain rfl : k = 9 := by omega
      obtain ⟨x, hxe⟩ : ∃ x, xa l 9 = x := ⟨_, rfl⟩
      have hx256 : x < 256 := by rw [← hxe]; exact xa_lt l 9
      have HO := Lib.hid (odd_eq l HL.out)
      rw [hxe] at HO ⊢
      clear hxe
      go_wp2_with fail
      refine (ones_any x _ hx256).mono ?_
      rintro e w' ⟨rfl, rfl⟩
      obtain ⟨n, hn⟩ : ∃ n, cnt x 8 = n := ⟨_, rfl⟩
      have hn8 : n ≤ 8 := by rw [← hn]; exact cnt_le x 8
      have HN := Lib.hid hn
      rw [hn]
      clear hn
      go_wp2
      go_ret
      exact ⟨ret_bool (HO.out n HN.out), (Below.refl _ _).alloc (Nat.le_refl _) _⟩

set_option maxRecDepth 100000 in
theorem ham_left (l : List UInt8) (w : World) (hl : l.length = 9) (hT : ∀ i, i < 64 → w.cell? ⟨0, i, none⟩ = some (.int .u8 ((place i : Nat) : Int))) (hg : 0 < w.heap.size) :
    Calls Tryd.prog 67 #[.agg (ca l)] w fun e w' => e = .returned (.int .u8 (left (numN l) 72 : Nat)) ∧ Below w.heap.size w w' := by
  have HC := Lib.hid (fun k (hk : k < 9) => show (w.alloc (.cells (ca l) 109)).cell? ⟨w.heap.size, k, none⟩ = some (.int .u8 (by_ l k : Int)) by rw [World.cell?_alloc_new]; exact ca_by l k (by omega))
  have HT := Lib.hid (fun k (hk : k < 64) => show (w.alloc (.cells (ca l) 109)).cell? ⟨0, k, none⟩ = some (.int .u8 ((place k : Nat) : Int)) by
    rw [((Below.refl w.heap.size w).alloc (Nat.le_refl _) _).cell (p := ⟨0, k, none⟩) hg]; exact hT k hk)
  have HL := Lib.hid hl
  clear hl hT
  have h8 := HC.out 8 (by omega)
  have hnt := not_top (by_ l 8) (by_lt l 8)
  rw [← lp_zero] at hnt
  obtain ⟨c8, hc8⟩ : ∃ c8, by_ l 8 = c8 := ⟨_, rfl⟩
  have hc256 : c8 < 256 := by rw [← hc8]; exact by_lt l 8
  rw [hc8] at h8 hnt
  clear hc8
  go_enter Tryd.func67, Tryd.ntmps67
  go_wp2
  clear hnt h8 hc256
  go_loop [3, 9] (fun x i => ∃ k : Nat, k ≤ 8 ∧ i = .int .i64 k ∧ x = .int .u8 (lp l k : Nat)) (fun _ i => 8 - (intOf i).toNat)
  case atStart => exact ⟨0, by omega, rfl, rfl⟩
  case round =>
    obtain ⟨k, hk, rfl, rfl⟩ := hrel
    by_cases hlt : k < 8
    · have hck := HC.out k (by omega)
      have HS := Lib.hid (lp_succ l k (by rw [HL.out]; omega))
      have HZ := Lib.hid (leftB_zero k (by omega))
      obtain ⟨b0, hb0⟩ : ∃ b, by_ l k = b := ⟨_, rfl⟩
      have hb256 : b0 < 256 := by rw [← hb0]; exact by_lt l k
      obtain ⟨x0, hx0⟩ : ∃ x, lp l k = x := ⟨_, rfl⟩
      have hx128 : x0 < 128 := by rw [← hx0]; exact lp_lt l k
      rw [hb0, hx0] at HS
      rw [hb0] at hck
      rw [hx0]
      clear hb0 hx0
      go_wp2
      go_loop [3, 5] (fun p b => ∃ x c : Nat, x < 128 ∧ c < 256 ∧ x ^^^ leftB k c 8 = x0 ^^^ leftB k b0 8 ∧ p = .int .u8 x ∧ b = .int .u8 c) (fun _ b => (intOf b).toNat)
      case atStart => exact ⟨x0, b0, hx128, hb256, rfl, rfl, rfl⟩
      case round =>
        obtain ⟨x, c, hx, hc, hxc, rfl, rfl⟩ := hrel
        have HXC := Lib.hid hxc
        clear hxc
        by_cases hc0 : 0 < c
        · have hcn : ((c : Int) != 0) = true := by simp; omega
          have hlow := low_bits c hc hc0
          have hlt2 := low_lt c hc hc0
          have HB := Lib.hid (leftB_low k hlt c hc hc0)
          have ht8 := tz_lt c
          obtain ⟨d, hd⟩ : ∃ d, c &&& (c - 1) = d := ⟨_, rfl⟩
          rw [hd] at hlow hlt2 HB
          clear hd
          go_wp2_with fail
          refine (tz_any c _ hc0 hc).mono ?_
          rintro e w' ⟨rfl, rfl⟩
          obtain ⟨t, ht⟩ : ∃ t, tz c = t := ⟨_, rfl⟩
          rw [ht] at ht8 HB ⊢
          clear ht
          have htk := HT.out (8 * k + t) (by omega)
          have hpl := place_le (8 * k + t)
          obtain ⟨y, hy⟩ : ∃ y, place (8 * k + t) = y := ⟨_, rfl⟩
          rw [hy] at htk hpl HB
          clear hy
          have hxy := xor_u8 x y (by omega) (by omega)
          have hxy7 : x ^^^ y < 128 := Nat.xor_lt_two_pow (n := 7) hx (by omega)
          go_wp2
          go_round
          case rel => exact ⟨x ^^^ y, d, hxy7, by omega, by rw [← HXC.out, HB.out, Nat.xor_assoc], rfl, rfl⟩
          case measure => simp [intOf]; omega
        · obtain rfl : c = 0 := by omega
          go_wp2
          go_round
          case rel => exact ⟨k + 1, by omega, by go_num, by have h := HXC.out; rw [HZ.out, Nat.xor_zero] at h; rw [HS.out, ← h]⟩
          case measure => simp [intOf]; omega
    · obtain rfl : k = 8 := by omega
      have HA := Lib.hid (lp_all l HL.out)
      go_wp2
      go_ret
      exact ⟨ret_int (by rw [HA.out]), (Below.refl _ _).alloc (Nat.le_refl _) _⟩

end Go.Proofs.YtjmoecfgpfdncaaDoor

/- Contracts of package ham: turned. -/
namespace Go.Proofs.YtjmoecfgpfdncaaDoor
set_option maxRecDepth 100000
open Go.RowKit

/-- a whole array out of a variable whose cells are known one by one -/
theorem wpList_load_cells {P : Program} {ops : Array Oper} {rest : List Oper} {o : Oper} {a : Act} {w : World} {Q : Exit → Act → World → Prop} (hgd : o.guard = none) (ty : TypeId) (x : Operand) (ho : o.op = .load ty x)
    (g : Nat) (hx : a.eval x = .pointer (some ⟨g, 0, none⟩)) (cs : List Value) (d : TypeDesc) (hc : ∀ j v, cs[j]? = some v → w.cell? ⟨g, j, none⟩ = some v)
    (hu : P.underlying ty = some d) (hd : (match d with | .struct _ | .array _ _ => true | _ => false) = true) (hi : (P.info? ty).map (·.size) = some cs.length)
    (h : wpList P ops Q rest (a.put o.dst (.agg cs.toArray)) w) : wpList P ops Q (o :: rest) a w := by
  refine wpList_plain hgd fun K hK => ?_
  have hl : (loadCells ⟨g, 0, none⟩ cs.length).run P w = .ok cs.toArray w :=
    run_loadCells_list (P := P) w ⟨g, 0, none⟩ cs (fun j v hv => by
      have hadd : (⟨g, 0, none⟩ : Addr).add j = ⟨g, j, none⟩ := by unfold Addr.add; split <;> simp_all
      rw [hadd]; exact hc j v hv)
  have hrun : (loadVar ty ⟨g, 0, none⟩).run P w = .ok (.agg cs.toArray) w := by
    cases hq : P.info? ty with
    | none => simp [hq] at hi
    | some i =>
      have hs : i.size = cs.length := by simpa [hq] using hi
      have hagg : (isAgg ty).run P w = .ok true w := by
        unfold isAgg
        rw [Sem.run_bind, run_underlying hu w]
        cases d <;> simp_all
      simp [loadVar, Sem.run_bind, hagg, sizeOf, typeInfo, hq, hs, hl]
  unfold Oper.wp execOp
  simp only [ho, hx, Instr.loadAt, Instr.sureAddr, Sem.run_bind, Sem.run_pure, Result.andThen_ok, hrun]
  exact hK _ _ h

def plL : List Value := (List.range 64).map fun i => Value.int .u8 ((place i : Nat) : Int)
theorem plL_length : plL.length = 64 := by simp [plL]
theorem plL_at {j : Nat} {v : Value} (h : plL[j]? = some v) : j < 64 ∧ v = .int .u8 ((place j : Nat) : Int) := by
  have hj : j < plL.length := (List.getElem?_eq_some_iff.1 h).1
  rw [plL_length] at hj
  refine ⟨hj, ?_⟩
  simp [plL, hj] at h
  exact h.symm
theorem size_pl : (Tryd.prog.info? 133).map (·.size) = some plL.length := by rw [plL_length]; kernel_rfl
theorem index_pl (k : Nat) (hk : k < 64) (w : World) : (Instr.index 133 (.agg plL.toArray) (.int .i64 (k : Int))).run Tryd.prog w = .ok (.int .u8 ((place k : Nat) : Int)) w := by
  obtain ⟨i0, hi, hz0, hz1, hz2⟩ := info_parts Tryd.infoU8
  have h : plL.toArray[k]? = some (.int .u8 ((place k : Nat) : Int)) := by simp [plL, hk]
  have hu := Tryd.underlying133
  have hk2 : k < plL.length := by rw [plL_length]; exact hk
  have h' : plL[k]? = some (.int .u8 ((place k : Nat) : Int)) := by simp [plL, hk]
  simp [Instr.index, asIntOf, run_underlying hu, hk, part, sizeOf, typeInfo, hi, hz1, isAgg, run_underlying Tryd.underlying5, h', go_sem]

theorem xor_pow (b r : Nat) (hb : b < 256) (hr : r < 8) : bits .xor .u8 (b : Int) (2 ^ r % 256) = ((b ^^^ 2 ^ r : Nat) : Int) := by
  have h : ∀ b : Nat, b < 256 → ∀ r : Nat, r < 8 → bits .xor .u8 (b : Int) (2 ^ r % 256) = ((b ^^^ 2 ^ r : Nat) : Int) := by decide +kernel
  exact h b hb r hr

/-- a block of nine cells -/
def ChunkAt (w : World) (b : Nat) (l : List UInt8) : Prop := w.heap[b]? = some (.cells (ca l) 109 (0, 0))
theorem ChunkAt.cell {w : World} {b : Nat} {l : List UInt8} (h : ChunkAt w b l) (i : Nat) (hi : i < l.length) : w.cell? ⟨b, i, none⟩ = some (.int .u8 (by_ l i : Int)) := by
  have h2 : w.cell? ⟨b, i, none⟩ = (ca l)[i]? := by unfold ChunkAt at h; simp [World.cell?, h]
  rw [h2]; exact ca_by l i hi
theorem ChunkAt.free {w : World} {b : Nat} {l : List UInt8} (h : ChunkAt w b l) (i : Nat) : w.frozen? ⟨b, i, none⟩ = false := by
  unfold ChunkAt at h; simp [World.frozen?, h]
theorem ChunkAt.alloc {w : World} {b : Nat} {l : List UInt8} (h : ChunkAt w b l) (o : Obj) : ChunkAt (w.alloc o) b l := by
  have hb : b < w.heap.size := (Array.getElem?_eq_some_iff.1 h).1
  unfold ChunkAt at *
  (first | rw [heap_alloc_old _ _ hb] | rw [heap_alloc_old _ _ _ hb]); exact h
theorem ChunkAt.new (w : World) (l : List UInt8) : ChunkAt (w.alloc (.cells (ca l) 109)) w.heap.size l := heap_alloc_new _ _
theorem ChunkAt.drew {w : World} {b : Nat} {l : List UInt8} (h : ChunkAt w b l) : ChunkAt w.drew b l := h
theorem ChunkAt.set {w : World} {b : Nat} {l : List UInt8} (h : ChunkAt w b l) (i : Nat) (v : Value) (m : List UInt8) (he : (ca l).setIfInBounds i v = ca m) : ChunkAt (w.setCell ⟨b, i, none⟩ v) b m := by
  unfold ChunkAt at *
  rw [heap_setCell_same _ _ _ _ _ _ h, he]
theorem ChunkAt.set_other {w : World} {b c : Nat} {l : List UInt8} (h : ChunkAt w b l) (hne : c ≠ b) (i : Nat) (v : Value) : ChunkAt (w.setCell ⟨c, i, none⟩ v) b l := by
  unfold ChunkAt at *
  rw [Below.heap_setCell _ _ _ _ (Ne.symm hne)]; exact h
theorem ChunkAt.put {w : World} {b : Nat} {l m : List UInt8} (h : ChunkAt w b l) : ChunkAt (w.setRow b (ca m)) b m := by
  unfold ChunkAt at *
  exact setRow_heap w b (ca l) (ca m) _ _ h
theorem ca_one (l : List UInt8) : (ca l).all (·.oneCell') = true := by
  rw [Array.all_eq_true_iff_forall_mem]
  intro v hv
  simp [ca, Lib.byteCells] at hv
  obtain ⟨b, _, rfl⟩ := hv
  rfl
theorem below_setRow {B g : Nat} {a w : World} (hB : B ≤ g) (cs : Array Value) (h : Below B a w) : Below B a (w.setRow g cs) := by
  have hk : ∀ k, k < B → (w.setRow g cs).heap[k]? = w.heap[k]? := by
    intro k hk
    simp only [World.setRow, Array.getElem?_modify]
    rw [if_neg (by omega)]
  obtain ⟨h1, h2, h3, h4, h5⟩ := h
  exact ⟨h1, h2, h3, by rw [size_setRow]; exact h4, fun k hk2 => by rw [hk k hk2]; exact h5 k hk2⟩
theorem zero_ca : (#[.int .u8 0, .int .u8 0, .int .u8 0, .int .u8 0, .int .u8 0, .int .u8 0, .int .u8 0, .int .u8 0, .int .u8 0] : Array Value) = ca (List.replicate 9 0) := rfl

set_option maxRecDepth 100000 in
theorem ham_turned (l : List UInt8) (p : Nat) (w : World) (hl : l.length = 9) (hp : p ≤ 71) (hT : ∀ i, i < 64 → w.cell? ⟨0, i, none⟩ = some (.int .u8 ((place i : Nat) : Int))) (hg : 0 < w.heap.size) :
    Calls Tryd.prog 74 #[.agg (ca l), .int .u8 p] w fun e w' => e = .returned (.agg (ca (turnL l p 64))) ∧ Below w.heap.size w w' := by
  have HL := Lib.hid hl
  obtain ⟨zr, hzr⟩ : ∃ zr : List UInt8, List.replicate 9 0 = zr := ⟨_, rfl⟩
  have HZ : Hid (zr.length = 9) := by rw [← hzr]; rfl
  have hz := zero_ca
  rw [hzr] at hz
  have HZC := Lib.hid hz
  clear hz hzr
  have HT := Lib.hid hT
  clear hT hl
  go_enter Tryd.func74, Tryd.ntmps74
  go_wp2_with (refine wpList_load_cells rfl 133 (.global 0) rfl 0 rfl plL _ ?hc Tryd.underlying133 rfl size_pl ?_)
  case hc => intro j v hv; obtain ⟨hj, rfl⟩ := plL_at hv; go_simp; exact HT.out j hj
  go_loopw [8] (fun i wr => ∃ k : Nat, k ≤ 64 ∧ i = .int .i64 k ∧ ChunkAt wr w.heap.size (turnL l p k) ∧ ChunkAt wr (w.heap.size + 1) zr ∧ Below w.heap.size w wr) (fun i _ => 64 - (intOf i).toNat)
  case atStart => exact ⟨0, by omega, rfl, (ChunkAt.new w l).alloc _, by rw [HZC.out]; have h := ChunkAt.new (w.alloc (.cells (ca l) 109)) zr; rwa [show (w.alloc (.cells (ca l) 109)).heap.size = w.heap.size + 1 by simp] at h, ((Below.refl _ _).alloc (Nat.le_refl _) _).alloc (by simp) _⟩
  case round =>
    obtain ⟨k, hk, rfl, hc, hz, hb⟩ := hrel
    obtain ⟨wo, rfl⟩ : ∃ wo : World, wo = wr := ⟨_, rfl⟩
    have HB := Lib.hid hb
    have HZ2 := Lib.hid hz
    clear hb hz
    by_cases hlt : k < 64
    · have hip := fun w => index_pl k hlt w
      obtain ⟨x, hxe⟩ : ∃ x, place k = x := ⟨_, rfl⟩
      rw [hxe] at hip
      by_cases hx : x = p
      · subst hx
        obtain ⟨e1, e2⟩ := turnL_hit l x k x hp hlt hxe rfl
        rw [e1] at hc
        obtain ⟨q, hq⟩ : ∃ q, k / 8 = q := ⟨_, rfl⟩
        obtain ⟨r, hr⟩ : ∃ r, k % 8 = r := ⟨_, rfl⟩
        have hq2 : (k : Int) / 8 = q := by omega
        have hr2 : (k : Int) % 8 = r := by omega
        have hq8 : q < 8 := by omega
        have hr8 : r < 8 := by omega
        rw [hq, hr] at e2
        have hcell := hc.cell q (by rw [HL.out]; omega)
        have hfree := hc.free q
        have hflip := ca_flip l q r hr8
        have hxp := xor_pow (by_ l q) r (by_lt l q) hr8
        obtain ⟨b, hbe⟩ : ∃ b, by_ l q = b := ⟨_, rfl⟩
        rw [hbe] at hcell hflip hxp
        rw [← hxp] at hflip
        have HX := Lib.hid hxp
        have HF := Lib.hid hflip
        have HC := Lib.hid hc
        have HE := Lib.hid e2
        have HP := Lib.hid hxe
        clear hflip hc e1 e2 hq hr hbe hxe hxp
        go_wp2
        go_region
        go_wp2
        go_roundw
        case rel => exact ⟨k + 1, by omega, by go_num, by rw [HE.out]; exact (HC.out.set q _ _ HF.out).drew, (HZ2.out.set_other (by omega) _ _).drew, (HB.out.setCell (Nat.le_refl _) _).drew⟩
        case measure => simp [intOf]; omega
      · have hxb : ((x : Int) == (p : Int)) = false := by simp; omega
        have HE := Lib.hid (turnL_miss l p k x hp hxe hx)
        have HC := Lib.hid hc
        clear hc hxe hx
        go_wp2
        go_roundw
        case rel => exact ⟨k + 1, by omega, by go_num, by rw [HE.out]; exact HC.out, HZ2.out, HB.out⟩
        case measure => simp [intOf]; omega
    · obtain rfl : k = 64 := by omega
      obtain ⟨m, hm⟩ : ∃ m, turnL l p 64 = m := ⟨_, rfl⟩
      have hml : m.length = 9 := by rw [← hm, turnL_length]; exact HL.out
      rw [hm] at hc
      have HM := Lib.hid hm
      have HC := Lib.hid hc
      have hs := size_ca m hml
      have hso : (ca zr).size = (ca m).size := by rw [ca_size, ca_size, HZ.out, hml]
      have HSO := Lib.hid hso
      clear hm hc hso hml
      go_wp2_with (first
        | (refine wpList_load_row rfl 109 (.tmp 2) rfl w.heap.size rfl 109 (ca m) (0, 0) _ HC.out Tryd.underlying109 rfl hs ?_)
        | (refine wpList_store_row rfl 109 (.tmp 4) (.tmp 25) rfl (w.heap.size + 1) (ca m) rfl rfl 109 (ca zr) HZ2.out hs HSO.out (ca_one m) ?_))
      have hR := HZ2.out.put (m := m)
      refine bodyPost_ret (results_cell_row (P := Tryd.prog) rfl _ _ (w.heap.size + 1) 109 (ca m) (0, 0) _ rfl hR Tryd.underlying109 rfl hs) rfl ⟨by rw [HM.out], below_setRow (by omega) _ HB.out⟩

end Go.Proofs.YtjmoecfgpfdncaaDoor
