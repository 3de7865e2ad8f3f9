/- Texts of one claim, merged: CeRC, CeRD, CeRG, CeRH, CeRE, CeR9, CeRA, CeRB, CeRF, CeA, TagR, TagR2, TagR3, TagR4, TagR5, HamR1, HamR2, HamR3, HamR4, HamR5, FrR3. -/
import Derived.Test.YtjmoecfgpfdncaaDoorM3
import Derived.BigQuiet
import Derived.Deep.QuietTactic
import Derived.Test.YtjmoecfgpfdncaaDoorM2
import Derived.OwnWalk
import Derived.Deep.RegionHeld3
import Derived.Laws.StructEq
import Derived.Test.YtjmoecfgpfdncaaDoorM1
import Derived.Deep.OwnRows

/- The reference of layer 8, walked: two, where it is taken. -/
namespace Go.Proofs.YtjmoecfgpfdncaaDoor
set_option maxRecDepth 100000
open Go.RowKit

def tv3 (p q r : ByteArray) : Array Value := #[.string p, .string q, .string r]
theorem size_three : (Tryd.prog.info? 43).map (·.size) = some 3 := by kernel_rfl
theorem below_4 (w : World) (A B C D : Obj) : Below w.heap.size w ((((w.alloc A).alloc B).alloc C).alloc D) := (below_3 w A B C).alloc (by simp; omega) _
theorem blk_4a (w : World) (A B C : Obj) (cs : Array Value) (t : TypeId) : Blk ((((w.alloc (.cells cs t)).alloc A).alloc B).alloc C) w.heap.size cs t := (((Blk.new w cs t).alloc A).alloc B).alloc C
theorem blk_4b (w : World) (A B C : Obj) (cs : Array Value) (t : TypeId) : Blk ((((w.alloc A).alloc (.cells cs t)).alloc B).alloc C) (w.heap.size + 1) cs t := (blk_mid w A B cs t).alloc C
theorem blk_4c (w : World) (A B C : Obj) (cs : Array Value) (t : TypeId) : Blk ((((w.alloc A).alloc B).alloc (.cells cs t)).alloc C) (w.heap.size + 2) cs t := (blk_third w A B cs t).alloc C
theorem blk_4d (w : World) (A B C : Obj) (cs : Array Value) (t : TypeId) : Blk ((((w.alloc A).alloc B).alloc C).alloc (.cells cs t)) (w.heap.size + 3) cs t := by
  have h := Blk.new (((w.alloc A).alloc B).alloc C) cs t
  rwa [World.size_alloc, World.size_alloc, World.size_alloc] at h

theorem tv_one (p q r : ByteArray) : (tv3 p q r).all (·.oneCell') = true := by
  rw [Array.all_eq_true_iff_forall_mem]
  intro v hv
  simp [tv3] at hv
  rcases hv with rfl | rfl | rfl <;> rfl
/-- the n-th of three -/
def pgN (p q r : ByteArray) (n : Nat) : ByteArray := if n = 0 then p else if n = 1 then q else r
theorem tv_cell {w : World} {b : Nat} {p q r : ByteArray} {t : TypeId} (h : Blk w b (tv3 p q r) t) (n : Nat) (hn : n < 3) : w.cell? ⟨b, n, none⟩ = some (.string (pgN p q r n)) := by
  rw [h.cell n]
  match n, hn with
  | 0, _ => rfl
  | 1, _ => rfl
  | 2, _ => rfl
theorem put3_succ (s : St) (i : Nat) (p q r : ByteArray) (k a b : Int) (n : Nat) (hn : n < 3) : put3 s i p q r k a b (n + 1) = putSt (put3 s i p q r k a b n) (i + n) (pageT (pgN p q r n) k a b) (hurtsB k) := by
  match n, hn with
  | 0, _ => rfl
  | 1, _ => rfl
  | 2, _ => rfl
theorem put3_wf {s : St} (h : WfSt s) (i : Nat) {p q r : ByteArray} (k a b : Int) (hp : p.size ≤ 400) (hq : q.size ≤ 400) (hr : r.size ≤ 400) (n : Nat) (hn : n ≤ 3) : WfSt (put3 s i p q r k a b n) := by
  have h1 := putSt_wf h i (hurtsB k) (p := pageT p k a b) (by rw [pageT_size]; exact hp)
  have h2 := putSt_wf h1 (i + 1) (hurtsB k) (p := pageT q k a b) (by rw [pageT_size]; exact hq)
  have h3 := putSt_wf h2 (i + 2) (hurtsB k) (p := pageT r k a b) (by rw [pageT_size]; exact hr)
  match n, hn with
  | 0, _ => exact h
  | 1, _ => exact h1
  | 2, _ => exact h2
  | 3, _ => exact h3
def TZ (R : Nat) (Z : World → Prop) (w w' : World) : Prop := (∀ b, b < w.heap.size → b ≠ R → w'.heap[b]? = w.heap[b]?) ∧ (Z w → Z w')
theorem TZ.refl (R : Nat) (Z : World → Prop) (w : World) : TZ R Z w w := ⟨fun _ _ _ => rfl, id⟩
theorem TZ.call {R : Nat} {Z : World → Prop} {w w' : World} (hZ : Z w → Below w.heap.size w w' → Z w') (hb : Below w.heap.size w w') : TZ R Z w w' := ⟨fun b hlt _ => hb.block b hlt, fun h => hZ h hb⟩
theorem TZ.put {R : Nat} {Z : World → Prop} {w : World} (cs : Array Value) (h : Z (w.setRow R cs)) : TZ R Z w (w.setRow R cs) := ⟨fun b _ hne => setRow_heap_ne _ _ _ _ (by omega), fun _ => h⟩
theorem SlotC.ext4 {x : Tmp} {s : St} {base R : Nat} {Z : World → Prop} {a a' : Act} {w w' : World} (hw : WfSt s) (hR : R < base) (h : SlotC x s base a w) (hx : a'.tmps.getD x undef = a.tmps.getD x undef) (hT : TZ R Z w w') : SlotC x s base a' w' := by
  obtain ⟨g, c, h', d, h1, h2, h3, h4⟩ := h
  have hl := h2.lt hw
  exact ⟨g, c, h', d, hx.trans h1, h2.keep (hT.1 g hl.1 (by omega)) (hT.1 h' hl.2 (by omega)), h3, h4⟩
def fTW (j : Nat) : List Tmp := if j = 12 then [114] else []
/-- what each operation of the region TW leaves -/
def vsTW (B : Nat) (cur : St) (g c h d i n : Nat) (pn : ByteArray) (x k a b : Int) : List (Option (Tmp × Value)) :=
  [some (102, .agg (cv cur g c h d)), some (103, .int .i64 (i : Nat)), some (104, .int .i64 ((3 * i : Nat) : Int)), some (105, .int .i64 (n : Nat)), some (106, .int .i64 ((3 * i + n : Nat) : Int)), some (107, .int .i64 (n : Nat)), some (108, .pointer (some ⟨B + 1, n, none⟩)), some (109, .string pn), some (110, .agg (fv x k a b)), some (111, .string (pageT pn k a b)), some (112, .agg (fv x k a b)), some (113, .bool (hurtsB k)), none, none]
/-- the frame while the region TW runs -/
def BaseTW (B i n : Nat) (arr0 : Array Value) (a : Act) : Prop := ∃ u : Nat → Value, a = ⟨#[arr0.getD 0 undef, .int .i64 (i : Nat), arr0.getD 2 undef, arr0.getD 3 undef, arr0.getD 4 undef, .pointer (some ⟨B, 0, none⟩), arr0.getD 6 undef, .pointer (some ⟨B + 1, 0, none⟩), arr0.getD 8 undef, .pointer (some ⟨B + 2, 0, none⟩), .pointer (some ⟨B + 3, 0, none⟩), arr0.getD 11 undef, arr0.getD 12 undef, arr0.getD 13 undef, arr0.getD 14 undef, .int .i64 (n : Nat), arr0.getD 16 undef, arr0.getD 17 undef, arr0.getD 18 undef, arr0.getD 19 undef, arr0.getD 20 undef, arr0.getD 21 undef, arr0.getD 22 undef, arr0.getD 23 undef, arr0.getD 24 undef, arr0.getD 25 undef, arr0.getD 26 undef, arr0.getD 27 undef, arr0.getD 28 undef, arr0.getD 29 undef, arr0.getD 30 undef, arr0.getD 31 undef, arr0.getD 32 undef, arr0.getD 33 undef, arr0.getD 34 undef, arr0.getD 35 undef, arr0.getD 36 undef, arr0.getD 37 undef, arr0.getD 38 undef, arr0.getD 39 undef, arr0.getD 40 undef, arr0.getD 41 undef, arr0.getD 42 undef, arr0.getD 43 undef, arr0.getD 44 undef, arr0.getD 45 undef, arr0.getD 46 undef, arr0.getD 47 undef, arr0.getD 48 undef, arr0.getD 49 undef, arr0.getD 50 undef, arr0.getD 51 undef, arr0.getD 52 undef, arr0.getD 53 undef, arr0.getD 54 undef, arr0.getD 55 undef, arr0.getD 56 undef, arr0.getD 57 undef, arr0.getD 58 undef, arr0.getD 59 undef, arr0.getD 60 undef, arr0.getD 61 undef, arr0.getD 62 undef, arr0.getD 63 undef, arr0.getD 64 undef, arr0.getD 65 undef, arr0.getD 66 undef, arr0.getD 67 undef, arr0.getD 68 undef, arr0.getD 69 undef, arr0.getD 70 undef, arr0.getD 71 undef, arr0.getD 72 undef, arr0.getD 73 undef, arr0.getD 74 undef, arr0.getD 75 undef, arr0.getD 76 undef, arr0.getD 77 undef, arr0.getD 78 undef, arr0.getD 79 undef, arr0.getD 80 undef, arr0.getD 81 undef, arr0.getD 82 undef, arr0.getD 83 undef, arr0.getD 84 undef, arr0.getD 85 undef, arr0.getD 86 undef, arr0.getD 87 undef, arr0.getD 88 undef, arr0.getD 89 undef, arr0.getD 90 undef, arr0.getD 91 undef, arr0.getD 92 undef, arr0.getD 93 undef, arr0.getD 94 undef, arr0.getD 95 undef, arr0.getD 96 undef, arr0.getD 97 undef, arr0.getD 98 undef, arr0.getD 99 undef, arr0.getD 100 undef, arr0.getD 101 undef, u 102, u 103, u 104, u 105, u 106, u 107, u 108, u 109, u 110, u 111, u 112, u 113, u 114, arr0.getD 115 undef, arr0.getD 116 undef, arr0.getD 117 undef, arr0.getD 118 undef, arr0.getD 119 undef], []⟩
theorem BaseTW.of {B i n : Nat} (arr : Array Value) (h : arr = #[arr.getD 0 undef, .int .i64 (i : Nat), arr.getD 2 undef, arr.getD 3 undef, arr.getD 4 undef, .pointer (some ⟨B, 0, none⟩), arr.getD 6 undef, .pointer (some ⟨B + 1, 0, none⟩), arr.getD 8 undef, .pointer (some ⟨B + 2, 0, none⟩), .pointer (some ⟨B + 3, 0, none⟩), arr.getD 11 undef, arr.getD 12 undef, arr.getD 13 undef, arr.getD 14 undef, .int .i64 (n : Nat), arr.getD 16 undef, arr.getD 17 undef, arr.getD 18 undef, arr.getD 19 undef, arr.getD 20 undef, arr.getD 21 undef, arr.getD 22 undef, arr.getD 23 undef, arr.getD 24 undef, arr.getD 25 undef, arr.getD 26 undef, arr.getD 27 undef, arr.getD 28 undef, arr.getD 29 undef, arr.getD 30 undef, arr.getD 31 undef, arr.getD 32 undef, arr.getD 33 undef, arr.getD 34 undef, arr.getD 35 undef, arr.getD 36 undef, arr.getD 37 undef, arr.getD 38 undef, arr.getD 39 undef, arr.getD 40 undef, arr.getD 41 undef, arr.getD 42 undef, arr.getD 43 undef, arr.getD 44 undef, arr.getD 45 undef, arr.getD 46 undef, arr.getD 47 undef, arr.getD 48 undef, arr.getD 49 undef, arr.getD 50 undef, arr.getD 51 undef, arr.getD 52 undef, arr.getD 53 undef, arr.getD 54 undef, arr.getD 55 undef, arr.getD 56 undef, arr.getD 57 undef, arr.getD 58 undef, arr.getD 59 undef, arr.getD 60 undef, arr.getD 61 undef, arr.getD 62 undef, arr.getD 63 undef, arr.getD 64 undef, arr.getD 65 undef, arr.getD 66 undef, arr.getD 67 undef, arr.getD 68 undef, arr.getD 69 undef, arr.getD 70 undef, arr.getD 71 undef, arr.getD 72 undef, arr.getD 73 undef, arr.getD 74 undef, arr.getD 75 undef, arr.getD 76 undef, arr.getD 77 undef, arr.getD 78 undef, arr.getD 79 undef, arr.getD 80 undef, arr.getD 81 undef, arr.getD 82 undef, arr.getD 83 undef, arr.getD 84 undef, arr.getD 85 undef, arr.getD 86 undef, arr.getD 87 undef, arr.getD 88 undef, arr.getD 89 undef, arr.getD 90 undef, arr.getD 91 undef, arr.getD 92 undef, arr.getD 93 undef, arr.getD 94 undef, arr.getD 95 undef, arr.getD 96 undef, arr.getD 97 undef, arr.getD 98 undef, arr.getD 99 undef, arr.getD 100 undef, arr.getD 101 undef, arr.getD 102 undef, arr.getD 103 undef, arr.getD 104 undef, arr.getD 105 undef, arr.getD 106 undef, arr.getD 107 undef, arr.getD 108 undef, arr.getD 109 undef, arr.getD 110 undef, arr.getD 111 undef, arr.getD 112 undef, arr.getD 113 undef, arr.getD 114 undef, arr.getD 115 undef, arr.getD 116 undef, arr.getD 117 undef, arr.getD 118 undef, arr.getD 119 undef]) : BaseTW B i n arr ⟨arr, []⟩ := ⟨fun i => arr.getD i undef, by rw [← h]⟩
theorem BaseTW.put102 {B i n : Nat} {arr0 : Array Value} (a : Act) (v : Value) (h : BaseTW B i n arr0 a) : BaseTW B i n arr0 (a.put (some 102) v) := by
  obtain ⟨u, rfl⟩ := h
  exact ⟨fun i => if i = 102 then v else u i, by kernel_rfl⟩
theorem BaseTW.put103 {B i n : Nat} {arr0 : Array Value} (a : Act) (v : Value) (h : BaseTW B i n arr0 a) : BaseTW B i n arr0 (a.put (some 103) v) := by
  obtain ⟨u, rfl⟩ := h
  exact ⟨fun i => if i = 103 then v else u i, by kernel_rfl⟩
theorem BaseTW.put104 {B i n : Nat} {arr0 : Array Value} (a : Act) (v : Value) (h : BaseTW B i n arr0 a) : BaseTW B i n arr0 (a.put (some 104) v) := by
  obtain ⟨u, rfl⟩ := h
  exact ⟨fun i => if i = 104 then v else u i, by kernel_rfl⟩
theorem BaseTW.put105 {B i n : Nat} {arr0 : Array Value} (a : Act) (v : Value) (h : BaseTW B i n arr0 a) : BaseTW B i n arr0 (a.put (some 105) v) := by
  obtain ⟨u, rfl⟩ := h
  exact ⟨fun i => if i = 105 then v else u i, by kernel_rfl⟩
theorem BaseTW.put106 {B i n : Nat} {arr0 : Array Value} (a : Act) (v : Value) (h : BaseTW B i n arr0 a) : BaseTW B i n arr0 (a.put (some 106) v) := by
  obtain ⟨u, rfl⟩ := h
  exact ⟨fun i => if i = 106 then v else u i, by kernel_rfl⟩
theorem BaseTW.put107 {B i n : Nat} {arr0 : Array Value} (a : Act) (v : Value) (h : BaseTW B i n arr0 a) : BaseTW B i n arr0 (a.put (some 107) v) := by
  obtain ⟨u, rfl⟩ := h
  exact ⟨fun i => if i = 107 then v else u i, by kernel_rfl⟩
theorem BaseTW.put108 {B i n : Nat} {arr0 : Array Value} (a : Act) (v : Value) (h : BaseTW B i n arr0 a) : BaseTW B i n arr0 (a.put (some 108) v) := by
  obtain ⟨u, rfl⟩ := h
  exact ⟨fun i => if i = 108 then v else u i, by kernel_rfl⟩
theorem BaseTW.put109 {B i n : Nat} {arr0 : Array Value} (a : Act) (v : Value) (h : BaseTW B i n arr0 a) : BaseTW B i n arr0 (a.put (some 109) v) := by
  obtain ⟨u, rfl⟩ := h
  exact ⟨fun i => if i = 109 then v else u i, by kernel_rfl⟩
theorem BaseTW.put110 {B i n : Nat} {arr0 : Array Value} (a : Act) (v : Value) (h : BaseTW B i n arr0 a) : BaseTW B i n arr0 (a.put (some 110) v) := by
  obtain ⟨u, rfl⟩ := h
  exact ⟨fun i => if i = 110 then v else u i, by kernel_rfl⟩
theorem BaseTW.put111 {B i n : Nat} {arr0 : Array Value} (a : Act) (v : Value) (h : BaseTW B i n arr0 a) : BaseTW B i n arr0 (a.put (some 111) v) := by
  obtain ⟨u, rfl⟩ := h
  exact ⟨fun i => if i = 111 then v else u i, by kernel_rfl⟩
theorem BaseTW.put112 {B i n : Nat} {arr0 : Array Value} (a : Act) (v : Value) (h : BaseTW B i n arr0 a) : BaseTW B i n arr0 (a.put (some 112) v) := by
  obtain ⟨u, rfl⟩ := h
  exact ⟨fun i => if i = 112 then v else u i, by kernel_rfl⟩
theorem BaseTW.put113 {B i n : Nat} {arr0 : Array Value} (a : Act) (v : Value) (h : BaseTW B i n arr0 a) : BaseTW B i n arr0 (a.put (some 113) v) := by
  obtain ⟨u, rfl⟩ := h
  exact ⟨fun i => if i = 113 then v else u i, by kernel_rfl⟩
theorem BaseTW.put114 {B i n : Nat} {arr0 : Array Value} (a : Act) (v : Value) (h : BaseTW B i n arr0 a) : BaseTW B i n arr0 (a.put (some 114) v) := by
  obtain ⟨u, rfl⟩ := h
  exact ⟨fun i => if i = 114 then v else u i, by kernel_rfl⟩

end Go.Proofs.YtjmoecfgpfdncaaDoor

/- The reference of layer 8, walked: two, where it is refused; Foggy, Fine. -/
namespace Go.Proofs.YtjmoecfgpfdncaaDoor
set_option maxRecDepth 100000
open Go.RowKit

theorem two_no {s : St} {line : Int} {p q r : ByteArray} {f : Bool} {k a b : Int} (h : ¬ TwoOk s line p q r f) : twoSt s line p q r f k a b = s ∧ twoC s line p q r f k = 80 := by
  unfold twoSt twoC
  rw [if_neg h, if_neg h]
  exact ⟨rfl, rfl⟩

end Go.Proofs.YtjmoecfgpfdncaaDoor

/- The reference of layer 8, walked: two, where it is refused; Foggy, Fine. -/
namespace Go.Proofs.YtjmoecfgpfdncaaDoor
set_option maxRecDepth 100000
open Go.RowKit


end Go.Proofs.YtjmoecfgpfdncaaDoor

/- The reference of layer 8, walked: two, where it is refused; Foggy, Fine. -/
namespace Go.Proofs.YtjmoecfgpfdncaaDoor
set_option maxRecDepth 100000
open Go.RowKit


theorem text_ne {a b : ByteArray} (h : a ≠ b) : (a.toList == b.toList) = false := by
  rw [← Bool.not_eq_true]
  intro hc
  apply h
  rw [beq_iff_eq, ByteArray.toList_eq, ByteArray.toList_eq] at hc
  exact bytes_eq hc

end Go.Proofs.YtjmoecfgpfdncaaDoor

/- The reference of layer 8, walked: two, whole; Foggy, Fine. -/
namespace Go.Proofs.YtjmoecfgpfdncaaDoor
set_option maxRecDepth 100000
open Go.RowKit

end Go.Proofs.YtjmoecfgpfdncaaDoor

/- The reference of layer 8, walked: Erase, where it is refused, and where it goes well. -/
namespace Go.Proofs.YtjmoecfgpfdncaaDoor
set_option maxRecDepth 100000
open Go.RowKit

theorem moreSt_wf {s : St} (h : WfSt s) (h1 : s.slc < 1000000000) (h2 : s.tlc < 1000000000) : WfSt (moreSt s) := by
  obtain ⟨a1, a2, a3, a4, a5, a6, a7, a8, a9, a10⟩ := h
  unfold moreSt
  split
  · exact ⟨a1, a2, a3, a4, a5, a6, a7, a8, a9, h2⟩
  · exact ⟨a1, a2, a3, a4, a5, a6, a7, a8, h1, a10⟩
theorem more_same (s : St) : (moreSt s).L = s.L ∧ (moreSt s).Y = s.Y ∧ (moreSt s).ps = s.ps ∧ (moreSt s).hs = s.hs ∧ (moreSt s).mode = s.mode := by
  unfold moreSt
  split <;> exact ⟨rfl, rfl, rfl, rfl, rfl⟩
theorem more_two (s : St) (g c h d : Nat) (hm : s.mode = 2) : cv (moreSt s) g c h d = #[.int .i64 s.L, .int .i64 s.Y, .int .i64 s.mode, .int .i64 s.done, .bool s.bad, .bool s.torn, .int .i64 s.slc, .int .i64 ((s.tlc : Int) + 1), .slice (some ⟨g, 0, none⟩) (3 * s.L) c, .slice (some ⟨h, 0, none⟩) (3 * s.L) d] := by
  unfold moreSt
  rw [if_pos hm]
  rfl
theorem more_one (s : St) (g c h d : Nat) (hm : ¬ s.mode = 2) : cv (moreSt s) g c h d = #[.int .i64 s.L, .int .i64 s.Y, .int .i64 s.mode, .int .i64 s.done, .bool s.bad, .bool s.torn, .int .i64 ((s.slc : Int) + 1), .int .i64 s.tlc, .slice (some ⟨g, 0, none⟩) (3 * s.L) c, .slice (some ⟨h, 0, none⟩) (3 * s.L) d] := by
  unfold moreSt
  rw [if_neg hm]
  rfl
theorem blankS_size (n : Nat) : (blankS n).size = (n + 24) / 8 * 9 := by simp [blankS, ByteArray.size]
theorem atT_size {s : St} (h : WfSt s) (j : Nat) : (atT s j).size ≤ 400 := by
  unfold atT
  split
  · rw [blankS_size]; obtain ⟨h1, h2, h3⟩ := h.y; omega
  · have := h.size j
    split
    · exact this
    · split
      · rw [hurtT_size]; exact this
      · exact this
theorem ruinT_size {s : St} (h : WfSt s) (a b k : Int) (j : Nat) : (ruinT s a b k j).size ≤ 400 := by
  unfold ruinT
  split
  · exact atT_size h j
  · rw [pageT_size]; exact atT_size h j
theorem ruinTo_wf {s t : St} (hs : WfSt s) (ht : WfSt t) (a b k : Int) : ∀ n, WfSt (ruinTo s t a b k n)
  | 0 => ht
  | n + 1 => putSt_wf (ruinTo_wf hs ht a b k n) n true (ruinT_size hs a b k n)
theorem ruinTo_mode (s t : St) (a b k : Int) : ∀ n, (ruinTo s t a b k n).mode = t.mode ∧ (ruinTo s t a b k n).L = t.L
  | 0 => ⟨rfl, rfl⟩
  | n + 1 => ruinTo_mode s t a b k n
theorem slcSt_wf {s : St} (h : WfSt s) : WfSt (slcSt s) := by
  unfold slcSt
  split
  · obtain ⟨a1, a2, a3, a4, a5, a6, a7, a8, a9, a10⟩ := h
    exact ⟨a1, a2, a3, a4, a5, a6, a7, Or.inr (Or.inl rfl), a9, a10⟩
  · exact h

end Go.Proofs.YtjmoecfgpfdncaaDoor

/- The reference of layer 8, walked: Erase, where it goes well. -/
namespace Go.Proofs.YtjmoecfgpfdncaaDoor
set_option maxRecDepth 100000
open Go.RowKit

theorem newSt_wf {s : St} (h : WfSt s) : WfSt (newSt s.L s.Y) := by
  obtain ⟨a1, a2, a3, a4, a5, a6, a7, a8, a9, a10⟩ := h
  refine ⟨a1, a2, a3, Nat.zero_le _, by simp [newSt], by simp [newSt], fun j => ?_, Or.inl rfl, Nat.zero_le _, Nat.zero_le _⟩
  simp only [newSt, List.getD_eq_getElem?_getD, List.getElem?_replicate]
  split <;> simp
end Go.Proofs.YtjmoecfgpfdncaaDoor

/- The reference of layer 8, walked: Erase, where it is cut, or fails. -/
namespace Go.Proofs.YtjmoecfgpfdncaaDoor
set_option maxRecDepth 100000
open Go.RowKit

end Go.Proofs.YtjmoecfgpfdncaaDoor

/- The reference of layer 8, walked: Foggy, Fine; what each act leaves can be. -/
namespace Go.Proofs.YtjmoecfgpfdncaaDoor
set_option maxRecDepth 100000
open Go.RowKit

theorem progSt_wf {s : St} (h : WfSt s) (line : Int) (p : ByteArray) (k a b : Int) : WfSt (progSt s line p k a b) := by
  unfold progSt
  split
  · rename_i hok
    obtain ⟨_, _, _, k4, k5, k6⟩ := hok
    exact endSt_wf (putSt_wf (stepSt_wf h (Or.inl rfl) (by omega)) _ _ (by rw [pageT_size]; exact takes_size h k6)) k
  · exact h
theorem twoSt_wf {s : St} (h : WfSt s) (line : Int) (p q r : ByteArray) (f : Bool) (k a b : Int) : WfSt (twoSt s line p q r f k a b) := by
  unfold twoSt
  split
  · rename_i hok
    exact endSt_wf (put3_wf (stepSt_wf h (Or.inr rfl) hok.2.2.2.1) _ k a b (takes_size h hok.2.2.2.2.2.2.1) (takes_size h hok.2.2.2.2.2.2.2.1) (takes_size h hok.2.2.2.2.2.2.2.2.1) 3 (Nat.le_refl _)) k
  · exact h
theorem eraseSt_wf {s : St} (h : WfSt s) (k a b : Int) (h1 : s.slc < 1000000000) (h2 : s.tlc < 1000000000) : WfSt (eraseSt s k a b) := by
  have hm := moreSt_wf h h1 h2
  unfold eraseSt
  split
  · exact h
  · split
    · exact endSt_wf (slcSt_wf (ruinTo_wf hm hm a b k _)) k
    · obtain ⟨a1, a2, a3, a4, a5, a6, a7, a8, a9, a10⟩ := newSt_wf h
      exact ⟨a1, a2, a3, a4, a5, a6, a7, a8, hm.slc, hm.tlc⟩

end Go.Proofs.YtjmoecfgpfdncaaDoor

/- Calls that change a cell of the code's: what else they leave as it was. -/
namespace Go.Proofs.YtjmoecfgpfdncaaDoor
set_option maxRecDepth 100000
open Go.RowKit

/-- nothing that was there turns but for blocks of F -/
structure Only (F : Nat → Prop) (w w' : World) : Prop where
  os : w'.os = w.os
  tape : w'.tape = w.tape
  output : w'.output = w.output
  size : w.heap.size ≤ w'.heap.size
  block : ∀ k, k < w.heap.size → ¬ F k → w'.heap[k]? = w.heap[k]?
theorem Only.refl (F : Nat → Prop) (w : World) : Only F w w := ⟨rfl, rfl, rfl, Nat.le_refl _, fun _ _ _ => rfl⟩
theorem Only.of_below {F : Nat → Prop} {w w' : World} (h : Below w.heap.size w w') : Only F w w' := ⟨h.os, h.tape, h.output, h.size, fun k hk _ => h.block k hk⟩
theorem Only.below {F : Nat → Prop} {w w' : World} {B : Nat} (h : Only F w w') (hB : B ≤ w.heap.size) (hF : ∀ k, F k → B ≤ k) : Below B w w' :=
  ⟨h.os, h.tape, h.output, h.size, fun k hk => h.block k (by omega) (fun hf => by have := hF k hf; omega)⟩
theorem Only.trans {F F' : Nat → Prop} {w w' w'' : World} (h : Only F w w') (h' : Only F' w' w'') (hF : ∀ k, F' k → F k ∨ w.heap.size ≤ k) : Only F w w'' :=
  ⟨h'.os.trans h.os, h'.tape.trans h.tape, h'.output.trans h.output, Nat.le_trans h.size h'.size, fun k hk hn =>
    (h'.block k (by have := h.size; omega) (fun hf => (hF k hf).elim hn (fun h2 => by omega))).trans (h.block k hk hn)⟩
theorem Blk.only {F : Nat → Prop} {w w' : World} {b : Nat} {cs : Array Value} {t : TypeId} (h : Blk w b cs t) (ho : Only F w w') (hb : ¬ F b) : Blk w' b cs t := by
  have hl := h.lt
  unfold Blk at *
  rw [ho.block b hl hb]; exact h
theorem RAt.only {F : Nat → Prop} {w w' : World} {s : St} {g c h d : Nat} (hr : RAt w s g c h d) (hw : WfSt s) (ho : Only F w w') (hg : ¬ F g) (hh : ¬ F h) : RAt w' s g c h d :=
  hr.keep (ho.block g (hr.lt hw).1 hg) (ho.block h (hr.lt hw).2 hh)
/-- where a cell's blocks go: they stay, or are new -/
def Grows (F F' : Nat → Prop) (w : World) : Prop := ∀ k, F' k → F k ∨ w.heap.size ≤ k

end Go.Proofs.YtjmoecfgpfdncaaDoor

/- The reference of layer 4, walked: May, Number, Encode, Of, Decode. -/
namespace Go.Proofs.YtjmoecfgpfdncaaDoor
open Go.RowKit

/-- a tag's value -/
def tv (k l q e : Int) : Value := .agg #[.int .i64 k, .int .i64 l, .int .i64 q, .int .i64 e]
theorem below_eq {w w' : World} (h : w = w') : Below w.heap.size w w' := by subst h; exact Below.refl _ _

def NumPost (v : Int) (n : Nat) (w : World) (r : Ending) (w' : World) : Prop := r = .returned (.string (leS v n)) ∧ Below w.heap.size w w'
theorem cat_bytes (a b : List UInt8) : (⟨a.toArray⟩ : ByteArray) ++ (⟨b.toArray⟩ : ByteArray) = ⟨(a ++ b).toArray⟩ := by
  rw [ByteArray.mk_append_mk]
theorem tag_cat (k l q e : Int) : (((strOfNums [27, k] ++ leS l 2) ++ leS q 6) ++ leS e 4) ++ strOfNums [0, 0] = tagS k l q e := by
  unfold leS strOfNums
  simp only [cat_bytes]
  rfl
theorem conv2 (c d : Int) (ty : TypeId) (W : World) :
    Sem.run Tryd.prog (convert 55 9 (.slice (some ⟨W.heap.size, 0, none⟩) 2 2)) (W.alloc (.cells #[.int .u8 c, .int .u8 d] ty))
      = .ok (.string (strOfNums [c, d])) (W.alloc (.cells #[.int .u8 c, .int .u8 d] ty)) := by
  refine run_convert_bytes_arg (P := Tryd.prog) _ 55 5 Tryd.underlying55 Tryd.underlying5 W.heap.size 0 2 2 [c, d] rfl ?_ 9 Tryd.underlying9
  intro i hi
  rw [Nat.zero_add, World.cell?_alloc_new]
  rcases i with _ | _ | i
  · rfl
  · rfl
  · omega

/-- the tag's copy lies in this block, and nothing below has turned -/
def KT (k l q e : Int) (w w' : World) : Prop := w'.cell? ⟨w.heap.size, 0, none⟩ = some (.int .i64 k) ∧ w'.cell? ⟨w.heap.size, 1, none⟩ = some (.int .i64 l) ∧ w'.cell? ⟨w.heap.size, 2, none⟩ = some (.int .i64 q) ∧ w'.cell? ⟨w.heap.size, 3, none⟩ = some (.int .i64 e) ∧ Below w.heap.size w w'
theorem KT.first (k l q e : Int) (w : World) (ty : TypeId) : KT k l q e w (w.alloc (.cells #[.int .i64 k, .int .i64 l, .int .i64 q, .int .i64 e] ty)) :=
  ⟨by rw [World.cell?_alloc_new]; rfl, by rw [World.cell?_alloc_new]; rfl, by rw [World.cell?_alloc_new]; rfl, by rw [World.cell?_alloc_new]; rfl, (Below.refl _ _).alloc (Nat.le_refl _) _⟩
theorem KT.drew {k l q e : Int} {w w' : World} (h : KT k l q e w w') : KT k l q e w w'.drew := ⟨h.1, h.2.1, h.2.2.1, h.2.2.2.1, h.2.2.2.2.drew⟩
theorem KT.call {k l q e : Int} {w w1 w2 : World} (h : KT k l q e w w1) (hb : Below w1.heap.size w1 w2) : KT k l q e w w2 :=
  ⟨(hb.cell (cell_lt h.1)).trans h.1, (hb.cell (cell_lt h.2.1)).trans h.2.1, (hb.cell (cell_lt h.2.2.1)).trans h.2.2.1, (hb.cell (cell_lt h.2.2.2.1)).trans h.2.2.2.1, h.2.2.2.2.trans (hb.mono h.2.2.2.2.size)⟩
theorem KT.alloc {k l q e : Int} {w w1 : World} (h : KT k l q e w w1) (o : Obj) : KT k l q e w (w1.alloc o) := h.call ((Below.refl _ _).alloc (Nat.le_refl _) _)

end Go.Proofs.YtjmoecfgpfdncaaDoor

/- The reference of layer 4, walked: Encode of a tag that may be. -/
namespace Go.Proofs.YtjmoecfgpfdncaaDoor
open Go.RowKit

theorem conv_cells (g : Nat) (c d : Int) (W : World) (h0 : W.cell? ⟨g, 0, none⟩ = some (.int .u8 c)) (h1 : W.cell? ⟨g, 1, none⟩ = some (.int .u8 d)) :
    Sem.run Tryd.prog (convert 55 9 (.slice (some ⟨g, 0, none⟩) 2 2)) W = .ok (.string (strOfNums [c, d])) W := by
  refine run_convert_bytes_arg (P := Tryd.prog) _ 55 5 Tryd.underlying55 Tryd.underlying5 g 0 2 2 [c, d] rfl ?_ 9 Tryd.underlying9
  intro i hi
  rw [Nat.zero_add]
  rcases i with _ | _ | i
  · exact h0
  · exact h1
  · omega
/-- what each operation of Encode's return leaves -/
def RE (k l q e : Int) (B : Nat) : Nat → Value → World → Prop
  | 0, v, _ => v = .pointer (some ⟨B, 0, none⟩)
  | 1, v, _ => v = .int .i64 k
  | 2, v, _ => v = .int .u8 k
  | 3, v, w => ∃ g, v = .slice (some ⟨g, 0, none⟩) 2 2 ∧ w.cell? ⟨g, 0, none⟩ = some (.int .u8 27) ∧ w.cell? ⟨g, 1, none⟩ = some (.int .u8 k)
  | 4, v, _ => v = .string (strOfNums [27, k])
  | 5, v, _ => v = .pointer (some ⟨B, 1, none⟩)
  | 6, v, _ => v = .int .i64 l
  | 7, v, _ => v = .string (leS l 2)
  | 8, v, _ => v = .string (strOfNums [27, k] ++ leS l 2)
  | 9, v, _ => v = .pointer (some ⟨B, 2, none⟩)
  | 10, v, _ => v = .int .i64 q
  | 11, v, _ => v = .string (leS q 6)
  | 12, v, _ => v = .string ((strOfNums [27, k] ++ leS l 2) ++ leS q 6)
  | 13, v, _ => v = .pointer (some ⟨B, 3, none⟩)
  | 14, v, _ => v = .int .i64 e
  | 15, v, _ => v = .string (leS e 4)
  | 16, v, _ => v = .string (((strOfNums [27, k] ++ leS l 2) ++ leS q 6) ++ leS e 4)
  | 17, v, w => ∃ g, v = .slice (some ⟨g, 0, none⟩) 2 2 ∧ w.cell? ⟨g, 0, none⟩ = some (.int .u8 0) ∧ w.cell? ⟨g, 1, none⟩ = some (.int .u8 0)
  | 18, v, _ => v = .string (strOfNums [0, 0])
  | 19, v, _ => v = .string (tagS k l q e)
  | 20, v, _ => v = .string (tagS k l q e)
  | _, v, _ => v = .int .i64 0
def TB (w w' : World) : Prop := Below w.heap.size w w'
theorem RE.mono {k l q e : Int} {B : Nat} : ∀ (i : Nat) (v : Value) (w w' : World), RE k l q e B i v w → TB w w' → RE k l q e B i v w' := by
  intro i v w w' h hb
  have c3 : ∀ c d : Int, (∃ g, v = .slice (some ⟨g, 0, none⟩) 2 2 ∧ w.cell? ⟨g, 0, none⟩ = some (.int .u8 c) ∧ w.cell? ⟨g, 1, none⟩ = some (.int .u8 d)) → ∃ g, v = .slice (some ⟨g, 0, none⟩) 2 2 ∧ w'.cell? ⟨g, 0, none⟩ = some (.int .u8 c) ∧ w'.cell? ⟨g, 1, none⟩ = some (.int .u8 d) := by
    rintro c d ⟨g, h1, h2, h3⟩
    exact ⟨g, h1, (Below.cell (p := ⟨g, 0, none⟩) hb (cell_lt h2)).trans h2, (Below.cell (p := ⟨g, 1, none⟩) hb (cell_lt h3)).trans h3⟩
  unfold RE at *
  split at h <;> first | exact c3 _ _ h | exact h
/-- the frame, as far as the return reads it -/
def BaseE (B : Nat) (a : Act) : Prop := a.tmps.size = 27 ∧ a.defers = [] ∧ a.tmps.getD 1 undef = .pointer (some ⟨B, 0, none⟩)
theorem BaseE.put {B : Nat} {a : Act} {d : Tmp} {v : Value} (h : BaseE B a) (hd : d ≠ 1) : BaseE B (a.put (some d) v) :=
  ⟨by simp [Act.put, h.1], h.2.1, by rw [← h.2.2]; simp [Act.put, Array.getD_eq_getD_getElem?, Array.getElem?_setIfInBounds_ne hd]⟩

end Go.Proofs.YtjmoecfgpfdncaaDoor

/- The reference of layer 4, walked: Decode of a text that is no tag's bytes by its form. -/
namespace Go.Proofs.YtjmoecfgpfdncaaDoor
open Go.RowKit

def tagV (k l q e : Int) : Value := .agg #[.int .i64 k, .int .i64 l, .int .i64 q, .int .i64 e]
theorem byteT_get (s : ByteArray) (i : Nat) (h : i < s.size) : ((s[i].toNat : Nat) : Int) = byteT s i := by
  unfold byteT
  have : s.data.toList.getD i 0 = s[i] := by simp [List.getD, h]; rfl
  rw [this]

end Go.Proofs.YtjmoecfgpfdncaaDoor

/- The reference of layer 4, walked: Decode of a text that has a tag's form. -/
namespace Go.Proofs.YtjmoecfgpfdncaaDoor
open Go.RowKit

def ta (k l q e : Int) : Array Value := #[.int .i64 k, .int .i64 l, .int .i64 q, .int .i64 e]
theorem ta_one (k l q e : Int) : (ta k l q e).all (·.oneCell') = true := by
  rw [Array.all_eq_true_iff_forall_mem]
  intro v hv
  simp [ta] at hv
  rcases hv with rfl | rfl | rfl | rfl <;> rfl
theorem size_tag : (Tryd.prog.info? 34).map (·.size) = some 4 := by kernel_rfl
/-- what each operation of Decode's tag leaves -/
def vsT (s s2 s6 s4 : ByteArray) (b1 : Nat) (x y z : Int) : List (Option (Tmp × Value)) :=
  [some (24, .string s), some (25, .int .u8 b1), some (26, .int .i64 b1), some (27, .string s), some (28, .string s2), some (29, .int .i64 x), some (30, .string s), some (31, .string s6), some (32, .int .i64 y), some (33, .string s), some (34, .string s4), some (35, .int .i64 z), some (36, .agg (ta b1 x y z)), none, none]
def SpT (B : Nat) (f : Array Value) (j : Nat) (a : Act) (w : World) : Prop := ∃ g cs, B < g ∧ a.tmps.getD 4 undef = .pointer (some ⟨g, 0, none⟩) ∧ Blk w g cs 34 ∧ cs.size = 4 ∧ (j = 14 → cs = f)
/-- a block of a tag stays one, and stays f, once it is f -/
def TT (B : Nat) (f : Array Value) (w w' : World) : Prop := Below (B + 1) w w' ∧ ∀ g cs, B < g → Blk w g cs 34 → cs.size = 4 → ∃ cs', Blk w' g cs' 34 ∧ cs'.size = 4 ∧ (cs = f → cs' = f)
theorem TT.of {B : Nat} {f : Array Value} {w w' : World} (hb : Below w.heap.size w w') (hB : B < w.heap.size) : TT B f w w' :=
  ⟨hb.mono hB, fun _ cs _ h hs => ⟨cs, h.after hb, hs, id⟩⟩
theorem TT.store {B g : Nat} {f cs : Array Value} {w : World} (hg : B < g) (h : Blk w g cs 34) (hf : f.size = 4) : TT B f w (w.setRow g f) :=
  ⟨below_put hg f (Below.refl _ _), fun g' cs' _ h' hs' => by
    by_cases e : g = g'
    · subst e; exact ⟨f, h.put f, hf, fun _ => rfl⟩
    · exact ⟨cs', h'.put_other e f, hs', id⟩⟩
theorem SpT.ext {B : Nat} {f : Array Value} : ∀ j a a' w w', SpT B f j a w → (∀ d ∈ [4], a'.tmps.getD d undef = a.tmps.getD d undef) → TT B f w w' → SpT B f j a' w' := by
  rintro j a a' w w' ⟨g, cs, hg, h1, h2, h3, h4⟩ hd hT
  obtain ⟨cs', h5, h6, h7⟩ := hT.2 g cs hg h2 h3
  exact ⟨g, cs', hg, (hd 4 (by simp)).trans h1, h5, h6, fun h => h7 (h4 h)⟩
/-- the frame while the region TR runs -/
def BaseTR (s : ByteArray) (B : Nat) (a : Act) : Prop := ∃ u1 u3 u4 u5 u6 u7 u8 u9 u10 u11 u12 u13 u14 u15 u16 u17 u18 u19 u20 u21 u22 u23 u24 u25 u26 u27 u28 u29 u30 u31 u32 u33 u34 u35 u36 u37 u38 u39 u40 u41 : Value, a = ⟨#[.string s, u1, .pointer (some ⟨B, 0, none⟩), u3, u4, u5, u6, u7, u8, u9, u10, u11, u12, u13, u14, u15, u16, u17, u18, u19, u20, u21, u22, u23, u24, u25, u26, u27, u28, u29, u30, u31, u32, u33, u34, u35, u36, u37, u38, u39, u40, u41], []⟩
theorem baseTR (s : ByteArray) (B : Nat) : ∀ (a : Act) (v : Value), BaseTR s B a → BaseTR s B (a.put (some 24) v) ∧ BaseTR s B (a.put (some 25) v) ∧ BaseTR s B (a.put (some 26) v) ∧ BaseTR s B (a.put (some 27) v) ∧ BaseTR s B (a.put (some 28) v) ∧ BaseTR s B (a.put (some 29) v) ∧ BaseTR s B (a.put (some 30) v) ∧ BaseTR s B (a.put (some 31) v) ∧ BaseTR s B (a.put (some 32) v) ∧ BaseTR s B (a.put (some 33) v) ∧ BaseTR s B (a.put (some 34) v) ∧ BaseTR s B (a.put (some 35) v) ∧ BaseTR s B (a.put (some 36) v) ∧ BaseTR s B (a.put (some 4) v) := by
  rintro a v ⟨u1, u3, u4, u5, u6, u7, u8, u9, u10, u11, u12, u13, u14, u15, u16, u17, u18, u19, u20, u21, u22, u23, u24, u25, u26, u27, u28, u29, u30, u31, u32, u33, u34, u35, u36, u37, u38, u39, u40, u41, rfl⟩
  exact ⟨⟨u1, u3, u4, u5, u6, u7, u8, u9, u10, u11, u12, u13, u14, u15, u16, u17, u18, u19, u20, u21, u22, u23, v, u25, u26, u27, u28, u29, u30, u31, u32, u33, u34, u35, u36, u37, u38, u39, u40, u41, rfl⟩,
    ⟨u1, u3, u4, u5, u6, u7, u8, u9, u10, u11, u12, u13, u14, u15, u16, u17, u18, u19, u20, u21, u22, u23, u24, v, u26, u27, u28, u29, u30, u31, u32, u33, u34, u35, u36, u37, u38, u39, u40, u41, rfl⟩,
    ⟨u1, u3, u4, u5, u6, u7, u8, u9, u10, u11, u12, u13, u14, u15, u16, u17, u18, u19, u20, u21, u22, u23, u24, u25, v, u27, u28, u29, u30, u31, u32, u33, u34, u35, u36, u37, u38, u39, u40, u41, rfl⟩,
    ⟨u1, u3, u4, u5, u6, u7, u8, u9, u10, u11, u12, u13, u14, u15, u16, u17, u18, u19, u20, u21, u22, u23, u24, u25, u26, v, u28, u29, u30, u31, u32, u33, u34, u35, u36, u37, u38, u39, u40, u41, rfl⟩,
    ⟨u1, u3, u4, u5, u6, u7, u8, u9, u10, u11, u12, u13, u14, u15, u16, u17, u18, u19, u20, u21, u22, u23, u24, u25, u26, u27, v, u29, u30, u31, u32, u33, u34, u35, u36, u37, u38, u39, u40, u41, rfl⟩,
    ⟨u1, u3, u4, u5, u6, u7, u8, u9, u10, u11, u12, u13, u14, u15, u16, u17, u18, u19, u20, u21, u22, u23, u24, u25, u26, u27, u28, v, u30, u31, u32, u33, u34, u35, u36, u37, u38, u39, u40, u41, rfl⟩,
    ⟨u1, u3, u4, u5, u6, u7, u8, u9, u10, u11, u12, u13, u14, u15, u16, u17, u18, u19, u20, u21, u22, u23, u24, u25, u26, u27, u28, u29, v, u31, u32, u33, u34, u35, u36, u37, u38, u39, u40, u41, rfl⟩,
    ⟨u1, u3, u4, u5, u6, u7, u8, u9, u10, u11, u12, u13, u14, u15, u16, u17, u18, u19, u20, u21, u22, u23, u24, u25, u26, u27, u28, u29, u30, v, u32, u33, u34, u35, u36, u37, u38, u39, u40, u41, rfl⟩,
    ⟨u1, u3, u4, u5, u6, u7, u8, u9, u10, u11, u12, u13, u14, u15, u16, u17, u18, u19, u20, u21, u22, u23, u24, u25, u26, u27, u28, u29, u30, u31, v, u33, u34, u35, u36, u37, u38, u39, u40, u41, rfl⟩,
    ⟨u1, u3, u4, u5, u6, u7, u8, u9, u10, u11, u12, u13, u14, u15, u16, u17, u18, u19, u20, u21, u22, u23, u24, u25, u26, u27, u28, u29, u30, u31, u32, v, u34, u35, u36, u37, u38, u39, u40, u41, rfl⟩,
    ⟨u1, u3, u4, u5, u6, u7, u8, u9, u10, u11, u12, u13, u14, u15, u16, u17, u18, u19, u20, u21, u22, u23, u24, u25, u26, u27, u28, u29, u30, u31, u32, u33, v, u35, u36, u37, u38, u39, u40, u41, rfl⟩,
    ⟨u1, u3, u4, u5, u6, u7, u8, u9, u10, u11, u12, u13, u14, u15, u16, u17, u18, u19, u20, u21, u22, u23, u24, u25, u26, u27, u28, u29, u30, u31, u32, u33, u34, v, u36, u37, u38, u39, u40, u41, rfl⟩,
    ⟨u1, u3, u4, u5, u6, u7, u8, u9, u10, u11, u12, u13, u14, u15, u16, u17, u18, u19, u20, u21, u22, u23, u24, u25, u26, u27, u28, u29, u30, u31, u32, u33, u34, u35, v, u37, u38, u39, u40, u41, rfl⟩,
    ⟨u1, u3, v, u5, u6, u7, u8, u9, u10, u11, u12, u13, u14, u15, u16, u17, u18, u19, u20, u21, u22, u23, u24, u25, u26, u27, u28, u29, u30, u31, u32, u33, u34, u35, u36, u37, u38, u39, u40, u41, rfl⟩⟩
/-- the world while the region runs: the result's block, and what is below -/
def CT (w0 w : World) : Prop := Blk w w0.heap.size (ta 0 0 0 0) 34 ∧ Below w0.heap.size w0 w

end Go.Proofs.YtjmoecfgpfdncaaDoor

/- Tags: what Encode, Decode and May answer, as plain functions of their arguments; the reference's, whole; two tags compared. -/
namespace Go.Proofs.YtjmoecfgpfdncaaDoor
open Go.RowKit

def encT (k l q e : Int) : ByteArray := if MayT k l q e then tagS k l q e else ByteArray.empty
def encE (k l q e : Int) : Int := if MayT k l q e then 0 else 1
def decA (s : ByteArray) : Array Value := if OkT s then ta (byteT s 1) (lT s) (qT s) (eT s) else ta 0 0 0 0
def decE (s : ByteArray) : Int := if OkT s then 0 else 3
theorem decA_ok {s : ByteArray} (h : OkT s) : decA s = ta (byteT s 1) (lT s) (qT s) (eT s) := if_pos h
theorem decA_no {s : ByteArray} (h : ¬ OkT s) : decA s = ta 0 0 0 0 := if_neg h
def EncT (k l q e : Int) (w : World) (r : Ending) (w' : World) : Prop := r = .returned (.tuple #[.string (encT k l q e), .int .i64 (encE k l q e)]) ∧ Below w.heap.size w w'
def DecT (s : ByteArray) (w : World) (r : Ending) (w' : World) : Prop := r = .returned (.tuple #[.agg (decA s), .int .i64 (decE s)]) ∧ Below w.heap.size w w'
def MayPost (k l q e : Int) (w : World) (r : Ending) (w' : World) : Prop := r = .returned (.bool (mayB k l q e)) ∧ Below w.heap.size w w'

/-- are two tags the same? -/
def sameT (k l q e k' l' q' e' : Int) : Bool := k == k' && l == l' && q == q' && e == e'
theorem sameT_self (k l q e : Int) : sameT k l q e k l q e = true := by simp [sameT]
theorem sameT_iff (k l q e k' l' q' e' : Int) : sameT k l q e k' l' q' e' = true ↔ k = k' ∧ l = l' ∧ q = q' ∧ e = e' := by simp [sameT, and_assoc]
theorem fields_tag (k l q e k' l' q' e' : Int) (w : World) : Sem.run Tryd.prog (Op.eqFields 9999 (ta k l q e) (ta k' l' q' e') (Tryd.prog.fieldsOf 34).toList) w = .ok (sameT k l q e k' l' q' e') w := by
  simp only [Program.fieldsOf, Tryd.underlying34]
  simp [Op.eqFields, ta, part, isAgg, run_underlying Tryd.underlying3, run_equalIn_int _ _ _ _ _ _ _ Tryd.underlying3, sameT]
  by_cases h1 : k = k' <;> by_cases h2 : l = l' <;> by_cases h3 : q = q' <;> by_cases h4 : e = e' <;> simp [h1, h2, h3, h4]
theorem eq_tag (k l q e k' l' q' e' : Int) (w : World) : Sem.run Tryd.prog (binOp .eql 34 (.agg (ta k l q e)) (.agg (ta k' l' q' e'))) w = .ok (.bool (sameT k l q e k' l' q' e')) w := by
  rw [run_eql_struct, run_equalIn_agg _ _ _ _ _ (by kernel_rfl) (by kernel_rfl), fields_tag]
  rfl
theorem ne_tag (k l q e k' l' q' e' : Int) (w : World) : Sem.run Tryd.prog (binOp .neq 34 (.agg (ta k l q e)) (.agg (ta k' l' q' e'))) w = .ok (.bool (!sameT k l q e k' l' q' e')) w := by
  rw [run_neq_struct, run_equalIn_agg _ _ _ _ _ (by kernel_rfl) (by kernel_rfl), fields_tag]
  rfl
theorem wp_eql_tag {o : Oper} {a : Act} {w : World} {K : Act → World → Prop} {Q : Exit → Act → World → Prop} (x y : Operand) (ho : o.op = .binOp .eql 34 x y 34)
    (k l q e k' l' q' e' : Int) (hx : a.eval x = .agg (ta k l q e)) (hy : a.eval y = .agg (ta k' l' q' e')) (h : K (a.put o.dst (.bool (sameT k l q e k' l' q' e'))) w) : o.wp Tryd.prog a w K Q := by
  unfold Oper.wp execOp
  simp only [ho, hx, hy, Sem.run_bind, run_eqGuard_agg (P := Tryd.prog) w .eql 34 x y _ _ (by kernel_rfl), Result.andThen_ok, eq_tag]
  exact h
theorem wpList_eql_tag {ops : Array Oper} {rest : List Oper} {o : Oper} {a : Act} {w : World} {Q : Exit → Act → World → Prop} (hgd : o.guard = none) (x y : Operand) (ho : o.op = .binOp .eql 34 x y 34)
    (k l q e k' l' q' e' : Int) (hx : a.eval x = .agg (ta k l q e)) (hy : a.eval y = .agg (ta k' l' q' e')) (h : wpList Tryd.prog ops Q rest (a.put o.dst (.bool (sameT k l q e k' l' q' e'))) w) : wpList Tryd.prog ops Q (o :: rest) a w :=
  wpList_plain hgd fun _ hK => wp_eql_tag x y ho k l q e k' l' q' e' hx hy (hK _ _ h)
theorem decA_ta (s : ByteArray) : ∃ k l q e, decA s = ta k l q e := by
  unfold decA; split <;> exact ⟨_, _, _, _, rfl⟩

end Go.Proofs.YtjmoecfgpfdncaaDoor

/- The reference of layer 3, walked: power, Places, Xor, Bits, Left. -/
namespace Go.Proofs.YtjmoecfgpfdncaaDoor
set_option maxRecDepth 100000
open Go.RowKit

/-- numbers as cells -/
def V (x : Nat) : Value := .int .i64 (x : Nat)
/-- the first cells of a block are these numbers -/
def IntsAt (w : World) (g : Nat) (xs : List Nat) : Prop := ∀ i, i < xs.length → w.cell? ⟨g, i, none⟩ = some (.int .i64 ((xs.getD i 0 : Nat) : Int))
theorem IntsAt.below {w w' : World} {B g : Nat} {xs : List Nat} (h : IntsAt w g xs) (hb : Below B w w') (hg : g < B) : IntsAt w' g xs := by
  intro i hi
  rw [hb.cell (p := ⟨g, i, none⟩) hg]; exact h i hi
/-- this value is a slice of these numbers -/
def Ints (w : World) (v : Value) (xs : List Nat) : Prop := ∃ a ca, v = .slice a xs.length ca ∧ ∀ i, i < xs.length → ∃ b, a = some ⟨b, 0, none⟩ ∧ b < w.heap.size ∧ IntsAt w b xs
theorem Ints.below {w w' : World} {v : Value} {xs : List Nat} (h : Ints w v xs) (hb : Below w.heap.size w w') : Ints w' v xs := by
  obtain ⟨a, ca, h1, h2⟩ := h
  refine ⟨a, ca, h1, fun i hi => ?_⟩
  obtain ⟨b, h3, h4, h5⟩ := h2 i hi
  exact ⟨b, h3, Nat.lt_of_lt_of_le h4 hb.size, h5.below hb h4⟩
theorem owned_cells {w : World} {B E : Nat} {v : Value} {n : Nat} {xs : List Nat} (h : w.ownsRow B E 1 v n (xs.map V)) (hn : n = xs.length) :
    (v = .slice none 0 0 ∧ xs = []) ∨ ∃ g cap, v = .slice (some ⟨g, 0, none⟩) n cap ∧ B ≤ g ∧ g < w.heap.size ∧ IntsAt w g xs := by
  subst hn
  obtain ⟨_, h⟩ := h
  rcases h with ⟨h1, h2⟩ | ⟨g, cap, cur, h1, h2, h3, h4, _, h5, h6⟩
  · exact Or.inl ⟨h1, List.eq_nil_of_length_eq_zero h2⟩
  · refine Or.inr ⟨g, cap, h1, h2, ?_, ?_⟩
    · rcases Nat.lt_or_ge g w.heap.size with h | h
      · exact h
      · rw [Array.getElem?_eq_none h] at h3; cases h3
    · intro i hi
      have h7 : cur.toList[i]? = some (V (xs.getD i 0)) := by
        have h8 : (cur.toList.take (xs.length * 1))[i]? = cur.toList[i]? := List.getElem?_take_of_lt (by omega)
        rw [← h8, h6]
        simp [List.getD, hi]
      simpa [World.cell?, h3, V] using h7
theorem owned_ints {w : World} {B E : Nat} {v : Value} {n : Nat} {xs : List Nat} (h : w.ownsRow B E 1 v n (xs.map V)) (hn : n = xs.length) : Ints w v xs := by
  rcases owned_cells h hn with ⟨rfl, rfl⟩ | ⟨g, cap, rfl, _, hg, hi⟩
  · exact ⟨none, 0, rfl, fun i hi => by simp at hi⟩
  · subst hn
    exact ⟨_, cap, rfl, fun i _ => ⟨g, rfl, hg, hi⟩⟩
theorem Tryd.infoInt : (Tryd.prog.info? 3).map (fun i => (i.zero, i.size, i.bytes)) = some (some (.int .i64 0), 1, 8) := by kernel_rfl
/-! power -/
def isPow (n : Nat) : Bool := n == 1 || n == 2 || n == 4 || n == 8 || n == 16 || n == 32 || n == 64 || n == 128
theorem pow_end {n k : Nat} (hn : n < 72) (hk : k ≤ 7) (h : ∀ j, j < k → 2 ^ j < n) (h2 : ¬ 2 ^ k < n) : decide (2 ^ k = n) = isPow n := by
  have h3 : ∀ n, n < 72 → ∀ k, k < 8 → (∀ j, j < k → 2 ^ j < n) → ¬ 2 ^ k < n → decide (2 ^ k = n) = isPow n := by decide +kernel
  exact h3 n hn k (by omega) h h2
/-! Places -/
def plTo (n : Nat) : List Nat := (List.range n).filter fun i => decide (3 ≤ i) && !isPow i
theorem plTo_succ (n : Nat) (h : 3 ≤ n) : plTo (n + 1) = plTo n ++ (if isPow n then [] else [n]) := by
  unfold plTo
  rw [List.range_succ, List.filter_append]
  congr 1
  cases hb : isPow n <;> simp [hb, h]
theorem plTo_length (n : Nat) : (plTo n).length ≤ n := by
  unfold plTo
  exact Nat.le_trans (List.length_filter_le _ _) (by simp)
theorem plTo_all : plTo 72 ++ [1, 2, 4, 8, 16, 32, 64, 0] = pl := by decide +kernel
theorem rel_pl {w wr w1 : World} {B n m : Nat} {v' : Value} {x : Int} (hn : 3 ≤ n) (hp : isPow n = false) (hm : m = (plTo n).length) (ho : w1.ownsRow B 3 1 v' (m + 1) ((plTo n).map V ++ [.int .i64 x])) (hv : x = (n : Nat)) (hb : Below B w wr) (hg : Below B wr w1) :
    w1.ownsRow B 3 1 v' (plTo (n + 1)).length ((plTo (n + 1)).map V) ∧ Below B w w1 := by
  subst hv; subst hm
  rw [plTo_succ n hn, hp]
  exact ⟨by simpa [V] using ho, hb.trans hg⟩
theorem rel_all {w wr w1 : World} {B m : Nat} {v' : Value} (hm : m = (plTo 72).length) (ho : w1.ownsRow B 3 1 v' (m + 8) ((plTo 72).map V ++ [.int .i64 1, .int .i64 2, .int .i64 4, .int .i64 8, .int .i64 16, .int .i64 32, .int .i64 64, .int .i64 0])) (hb : Below B w wr) (hg : Below B wr w1) :
    w1.ownsRow B 3 1 v' 72 (pl.map V) ∧ Below B w w1 := by
  subst hm
  refine ⟨?_, hb.trans hg⟩
  rw [← plTo_all, List.map_append]
  exact ho
theorem cell_eight_new (w : World) (t : TypeId) (a b c d e f g h : Value) : ∀ j u, [a, b, c, d, e, f, g, h][j]? = some u → (w.alloc (.cells #[a, b, c, d, e, f, g, h] t)).cell? ((⟨w.heap.size, 0, none⟩ : Addr).add j) = some u := by
  intro j u hu
  rcases j with _ | _ | _ | _ | _ | _ | _ | _ | j
  all_goals simp at hu
  all_goals subst hu
  all_goals simp [Addr.add, World.cell?_alloc_new]
def PlacesPost (B : Nat) (w : World) (e : Ending) (w' : World) : Prop := ∃ v, e = .returned v ∧ w'.ownsRow B 3 1 v 72 (pl.map V) ∧ Below B w w'

end Go.Proofs.YtjmoecfgpfdncaaDoor

/- The reference of layer 3, walked: Xor, Bits, Left. -/
namespace Go.Proofs.YtjmoecfgpfdncaaDoor
set_option maxRecDepth 100000
open Go.RowKit

theorem xor_div (a b k : Nat) : (a ^^^ b) / 2 ^ k = a / 2 ^ k ^^^ b / 2 ^ k := by
  apply Nat.eq_of_testBit_eq; intro i
  rw [Nat.testBit_xor, Nat.testBit_div_two_pow, Nat.testBit_div_two_pow, Nat.testBit_div_two_pow, Nat.testBit_xor]
theorem xor_step (a b k : Nat) : (a ^^^ b) % 2 ^ (k + 1) = (a ^^^ b) % 2 ^ k + 2 ^ k * ((a / 2 ^ k % 2 + b / 2 ^ k % 2) % 2) := by
  rw [Nat.mod_pow_succ, xor_div, xor_odd]

/-! Left -/
def left3 (xs : List Nat) (k : Nat) : Nat := leftL (xs.take k)
theorem left3_succ (xs : List Nat) (k : Nat) (h : k < xs.length) : left3 xs (k + 1) = left3 xs k ^^^ place (xs.getD k 0) := by
  unfold left3
  rw [List.take_succ_eq_append_getElem h, leftL_snoc]
  simp [List.getD, h]
theorem left3_all (xs : List Nat) : left3 xs xs.length = leftL xs := by unfold left3; rw [List.take_length]
theorem place_cell {w : World} {g : Nat} (h : IntsAt w g pl) (i : Nat) (hi : i < 72) : w.cell? ⟨g, i, none⟩ = some (.int .i64 ((place i : Nat) : Int)) := h i hi

end Go.Proofs.YtjmoecfgpfdncaaDoor

/- The reference of layer 3, walked: Bits, Encode, Decode. -/
namespace Go.Proofs.YtjmoecfgpfdncaaDoor
set_option maxRecDepth 100000
open Go.RowKit

theorem bt_bit (c r : Nat) (hc : c < 256) (hr : r < 8) : bt (c : Int) r = if c.testBit r then 1 else 0 := by
  have h : ∀ c, c < 256 → ∀ r, r < 8 → bt ((c : Nat) : Int) r = if c.testBit r then 1 else 0 := by decide +kernel
  exact h c hc r hr
def Ones3 (M n B : Nat) (w : World) (e : Ending) (w' : World) : Prop := ∃ v, e = .returned v ∧ w'.ownsRow B 3 1 v (cnt M n) ((onesL M n).map V) ∧ Below B w w'
theorem rel_ones {w wr w1 : World} {B M k m : Nat} {v' : Value} {x : Int} (hp : M.testBit k = true) (hm : m = cnt M k) (ho : w1.ownsRow B 3 1 v' (m + 1) ((onesL M k).map V ++ [.int .i64 x])) (hv : x = (k : Nat)) (hb : Below B w wr) (hg : Below B wr w1) :
    w1.ownsRow B 3 1 v' (cnt M (k + 1)) ((onesL M (k + 1)).map V) ∧ Below B w w1 := by
  subst hv; subst hm
  simp only [cnt, onesL, hp, if_true]
  exact ⟨by simpa [V] using ho, hb.trans hg⟩

end Go.Proofs.YtjmoecfgpfdncaaDoor

/- The reference of layer 3, walked: Encode, Decode. -/
namespace Go.Proofs.YtjmoecfgpfdncaaDoor
set_option maxRecDepth 100000
open Go.RowKit

theorem conv1 (c : Int) (ty : TypeId) (W : World) :
    Sem.run Tryd.prog (convert 55 9 (.slice (some ⟨W.heap.size, 0, none⟩) 1 1)) (W.alloc (.cells #[.int .u8 c] ty))
      = .ok (.string (strOfNums [c])) (W.alloc (.cells #[.int .u8 c] ty)) := by
  refine run_convert_bytes_arg (P := Tryd.prog) _ 55 5 Tryd.underlying55 Tryd.underlying5 W.heap.size 0 1 1 [c] rfl ?_ 9 Tryd.underlying9
  intro i hi
  rw [Nat.zero_add, World.cell?_alloc_new]
  rcases i with _ | i
  all_goals first | (simp at hi; done) | rfl
theorem size_one (c : Int) : (strOfNums [c]).size = 1 := rfl
/-- with no check yet -/
theorem nul_cat (s : ByteArray) (h : s.size = 8) : ∃ z, s ++ strOfNums [0] = z ∧ z.size = 9 ∧ numN (bs z) = numN (bs s) := by
  refine ⟨_, rfl, by rw [ByteArray.size_append, h, size_one], ?_⟩
  have e : bs (s ++ strOfNums [0]) = bs s ++ [0] := by
    unfold bs; rw [ByteArray.data_append, Array.toList_append]; rfl
  rw [e, numN_append]
  show _ + _ * ((0 : UInt8).toNat + 256 * 0) = _
  simp

def EncPost (s : ByteArray) (w : World) (e : Ending) (w' : World) : Prop := e = .returned (.tuple #[.string (encS s), .int .i64 0]) ∧ Below w.heap.size w w'

theorem rel_len {w wr w1 : World} {B n : Nat} {v' : Value} {x : Int} {xs : List Nat} (y : Nat) (ho : w1.ownsRow B 3 1 v' (n + 1) (xs.map V ++ [.int .i64 x])) (hv : x = (y : Nat)) (hb : Below B w wr) (hg : Below B wr w1) :
    w1.ownsRow B 3 1 v' (n + 1) ((xs ++ [y]).map V) ∧ Below B w w1 := by
  subst hv
  exact ⟨by simpa [V] using ho, hb.trans hg⟩
theorem own_len {w : World} {B n : Nat} {v : Value} {xs : List Nat} (h : w.ownsRow B 3 1 v n (xs.map V)) : xs.length = n ∧ ∃ a ca, v = .slice a n ca := by
  have hl : xs.length = n := by have := h.1; simpa using this
  obtain ⟨a, ca, h1, _⟩ := owned_ints h hl.symm
  exact ⟨hl, a, ca, by rw [← hl]; exact h1⟩

end Go.Proofs.YtjmoecfgpfdncaaDoor

/- The reference of layer 3, walked: Decode. -/
namespace Go.Proofs.YtjmoecfgpfdncaaDoor
set_option maxRecDepth 100000
open Go.RowKit

def DecPost (s : ByteArray) (w : World) (e : Ending) (w' : World) : Prop := e = .returned (.tuple #[.string (decS s).1, .int .i64 (((decS s).2 : Nat) : Int), .int .i64 0]) ∧ Below w.heap.size w w'
theorem ret_dec {a b : ByteArray} {x y : Int} {v : Value} (h1 : a = b) (h2 : x = y) : Ending.returned (.tuple #[.string a, .int .i64 x, v]) = .returned (.tuple #[.string b, .int .i64 y, v]) := by rw [h1, h2]
theorem dec_good {s : ByteArray} (h1 : cnt (numN (bs s)) 72 % 2 = 0) (h2 : left (numN (bs s)) 72 = 0) : decS s = (s.extract 0 8, 2) := by unfold decS; rw [if_pos h1, if_pos h2]
theorem dec_bad {s : ByteArray} (h1 : cnt (numN (bs s)) 72 % 2 = 0) (h2 : left (numN (bs s)) 72 ≠ 0) : decS s = (ByteArray.empty, 4) := by unfold decS; rw [if_pos h1, if_neg h2]
theorem dec_far {s : ByteArray} (h1 : ¬ cnt (numN (bs s)) 72 % 2 = 0) (h2 : 71 < left (numN (bs s)) 72) : decS s = (ByteArray.empty, 4) := by unfold decS; rw [if_neg h1, if_pos h2]
theorem dec_fix {s : ByteArray} (h1 : ¬ cnt (numN (bs s)) 72 % 2 = 0) (h2 : ¬ 71 < left (numN (bs s)) 72) : decS s = (fixS s (left (numN (bs s)) 72), 3) := by unfold decS; rw [if_neg h1, if_neg h2]
theorem fix_at {s : ByteArray} {k p : Nat} (hk : k < 64) (h : place k = p) : fixS s p = (flipS s (k / 8) (k % 8)).extract 0 8 := by
  subst h
  unfold fixS
  rw [idx_place (by omega), if_pos hk]
theorem fix_none {s : ByteArray} {p : Nat} (hp : p ≤ 71) (h : ∀ j, j < 64 → place j ≠ p) : fixS s p = s.extract 0 8 := by
  unfold fixS
  rw [if_neg]
  intro h2
  exact h _ h2 (place_idx hp).2

/-- the places lie in this block -/
def PlAt (w : World) (g : Nat) : Prop := ∀ i, i < 72 → w.cell? ⟨g, i, none⟩ = some (.int .i64 ((place i : Nat) : Int))
theorem PlAt.of {w : World} {g : Nat} (h : IntsAt w g pl) : PlAt w g := fun i hi => place_cell h i hi
theorem PlAt.at {w : World} {g i : Nat} (h : PlAt w g) (hi : i < 72) : w.cell? ⟨g, i, none⟩ = some (.int .i64 ((place i : Nat) : Int)) := h i hi
/-- no place below k is p -/
def NoTo (p k : Nat) : Prop := ∀ j, j < k → place j ≠ p
theorem NoTo.zero (p : Nat) : NoTo p 0 := fun j hj => by omega
theorem NoTo.succ {p k x : Nat} (h : NoTo p k) (hx : place k = x) (hb : ((x : Int) == (p : Int)) = false) : NoTo p (k + 1) := by
  have hxp : x ≠ p := by simp at hb; omega
  intro j hj
  rcases Nat.lt_or_ge j k with h2 | h2
  · exact h j h2
  · obtain rfl : j = k := by omega
    rw [hx]; exact hxp

end Go.Proofs.YtjmoecfgpfdncaaDoor

/- The reference of layer 5, walked: Encode. -/
namespace Go.Proofs.YtjmoecfgpfdncaaDoor
set_option maxRecDepth 100000
open Go.RowKit

/-- a slice of four noughts lies at g -/
def Four (w : World) (g : Nat) : Prop := ∀ i, i < 4 → w.cell? ⟨g, i, none⟩ = some (.int .u8 0)
theorem cells4 (w : World) (t : TypeId) : Four (w.alloc (.cells #[.int .u8 0, .int .u8 0, .int .u8 0, .int .u8 0] t)) w.heap.size := by
  intro i hi
  rw [World.cell?_alloc_new]
  rcases i with _ | _ | _ | _ | i
  all_goals first | omega | rfl
theorem Four.after {w w' : World} {g : Nat} (h : Four w g) (hb : Below w.heap.size w w') : Four w' g := fun i hi => (Below.cell (p := ⟨g, i, none⟩) hb (cell_lt (h i hi))).trans (h i hi)
theorem conv_four (g : Nat) (w : World) (h : Four w g) : Sem.run Tryd.prog (convert 55 9 (.slice (some ⟨g, 0, none⟩) 4 4)) w = .ok (.string four0) w := by
  refine run_convert_bytes_arg (P := Tryd.prog) _ 55 5 Tryd.underlying55 Tryd.underlying5 g 0 4 4 [0, 0, 0, 0] rfl ?_ 9 Tryd.underlying9
  intro i hi
  rw [Nat.zero_add, h i hi]
  rcases i with _ | _ | _ | _ | i
  all_goals first | omega | rfl
def SpF (d : Tmp) (_ : Nat) (a : Act) (w : World) : Prop := ∃ g, a.tmps.getD d undef = .slice (some ⟨g, 0, none⟩) 4 4 ∧ Four w g
theorem SpF.ext {d : Tmp} : ∀ j a a' w w', SpF d j a w → (∀ s ∈ [d], a'.tmps.getD s undef = a.tmps.getD s undef) → Goes w w' → SpF d j a' w' := by
  rintro j a a' w w' ⟨g, h1, h2⟩ hd hT
  exact ⟨g, (hd d (by simp)).trans h1, h2.after hT⟩
/-- nothing below has turned -/
def Kept (w0 w : World) : Prop := Below w0.heap.size w0 w
theorem Kept.call {w0 w w' : World} (h : Kept w0 w) (hb : Below w.heap.size w w') : Kept w0 w' := Below.trans h (hb.mono (Below.size h))
theorem Kept.drew {w0 w : World} (h : Kept w0 w) : Kept w0 w.drew := Below.drew h

/-- what each operation of the region FE leaves -/
def vsFE (hd data x y z : ByteArray) : List (Option (Tmp × Value)) :=
  [some (25, .string hd), some (26, .string data), some (27, .string x), some (28, .string y), none, some (30, .string four0), some (31, .string z), some (8, .string z)]
/-- the frame while the region FE runs -/
def BaseFE (hd data : ByteArray) (a : Act) : Prop := ∃ u : Nat → Value, a = ⟨#[u 0, .string data, u 2, u 3, u 4, u 5, .string hd, u 7, u 8, u 9, u 10, u 11, u 12, u 13, u 14, u 15, u 16, u 17, u 18, u 19, u 20, u 21, u 22, u 23, u 24, u 25, u 26, u 27, u 28, u 29, u 30, u 31, u 32, u 33, u 34, u 35, u 36, u 37, u 38, u 39, u 40, u 41, u 42, u 43, u 44, u 45, u 46, u 47, u 48, u 49, u 50, u 51], []⟩
theorem BaseFE.of {hd data : ByteArray} (arr : Array Value) (h : arr = #[arr.getD 0 undef, .string data, arr.getD 2 undef, arr.getD 3 undef, arr.getD 4 undef, arr.getD 5 undef, .string hd, arr.getD 7 undef, arr.getD 8 undef, arr.getD 9 undef, arr.getD 10 undef, arr.getD 11 undef, arr.getD 12 undef, arr.getD 13 undef, arr.getD 14 undef, arr.getD 15 undef, arr.getD 16 undef, arr.getD 17 undef, arr.getD 18 undef, arr.getD 19 undef, arr.getD 20 undef, arr.getD 21 undef, arr.getD 22 undef, arr.getD 23 undef, arr.getD 24 undef, arr.getD 25 undef, arr.getD 26 undef, arr.getD 27 undef, arr.getD 28 undef, arr.getD 29 undef, arr.getD 30 undef, arr.getD 31 undef, arr.getD 32 undef, arr.getD 33 undef, arr.getD 34 undef, arr.getD 35 undef, arr.getD 36 undef, arr.getD 37 undef, arr.getD 38 undef, arr.getD 39 undef, arr.getD 40 undef, arr.getD 41 undef, arr.getD 42 undef, arr.getD 43 undef, arr.getD 44 undef, arr.getD 45 undef, arr.getD 46 undef, arr.getD 47 undef, arr.getD 48 undef, arr.getD 49 undef, arr.getD 50 undef, arr.getD 51 undef]) : BaseFE hd data ⟨arr, []⟩ := ⟨fun i => arr.getD i undef, by rw [← h]⟩
theorem BaseFE.put25 {hd data : ByteArray} (a : Act) (v : Value) (h : BaseFE hd data a) : BaseFE hd data (a.put (some 25) v) := by
  obtain ⟨u, rfl⟩ := h
  exact ⟨fun i => if i = 25 then v else u i, by kernel_rfl⟩
theorem BaseFE.put26 {hd data : ByteArray} (a : Act) (v : Value) (h : BaseFE hd data a) : BaseFE hd data (a.put (some 26) v) := by
  obtain ⟨u, rfl⟩ := h
  exact ⟨fun i => if i = 26 then v else u i, by kernel_rfl⟩
theorem BaseFE.put27 {hd data : ByteArray} (a : Act) (v : Value) (h : BaseFE hd data a) : BaseFE hd data (a.put (some 27) v) := by
  obtain ⟨u, rfl⟩ := h
  exact ⟨fun i => if i = 27 then v else u i, by kernel_rfl⟩
theorem BaseFE.put28 {hd data : ByteArray} (a : Act) (v : Value) (h : BaseFE hd data a) : BaseFE hd data (a.put (some 28) v) := by
  obtain ⟨u, rfl⟩ := h
  exact ⟨fun i => if i = 28 then v else u i, by kernel_rfl⟩
theorem BaseFE.put29 {hd data : ByteArray} (a : Act) (v : Value) (h : BaseFE hd data a) : BaseFE hd data (a.put (some 29) v) := by
  obtain ⟨u, rfl⟩ := h
  exact ⟨fun i => if i = 29 then v else u i, by kernel_rfl⟩
theorem BaseFE.put30 {hd data : ByteArray} (a : Act) (v : Value) (h : BaseFE hd data a) : BaseFE hd data (a.put (some 30) v) := by
  obtain ⟨u, rfl⟩ := h
  exact ⟨fun i => if i = 30 then v else u i, by kernel_rfl⟩
theorem BaseFE.put31 {hd data : ByteArray} (a : Act) (v : Value) (h : BaseFE hd data a) : BaseFE hd data (a.put (some 31) v) := by
  obtain ⟨u, rfl⟩ := h
  exact ⟨fun i => if i = 31 then v else u i, by kernel_rfl⟩
theorem BaseFE.put8 {hd data : ByteArray} (a : Act) (v : Value) (h : BaseFE hd data a) : BaseFE hd data (a.put (some 8) v) := by
  obtain ⟨u, rfl⟩ := h
  exact ⟨fun i => if i = 8 then v else u i, by kernel_rfl⟩

def FrEnc (k l q e : Int) (data : ByteArray) (w : World) (r : Ending) (w' : World) : Prop := r = .returned (.tuple #[.string (frT k l q e data), .int .i64 (frE k l q e data)]) ∧ Below w.heap.size w w'

end Go.Proofs.YtjmoecfgpfdncaaDoor
