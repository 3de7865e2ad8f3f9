/- Texts of one claim, merged: FrP, TagR, TagR2, TagR3, TagR4, TagR5, HamR1, HamR2, HamR3, HamR4, HamR5, FrR3, HamC1, HamC2, HamC3, HamC4, HamC5, CrcC1, CrcC2, FrT, BitsP, TagC0, TagC2, TagC3, TagC1, FrF4, FrR4, FrR5, FrB, FrB2, FrB3, FrE, Args, GeR6, ArgsN, Str2. -/
import Derived.Test.YtalefbmoebobkaaGreatDoorS3
import Derived.Test.YtalefbmoebobkaaGreatDoorS1
import Derived.OwnWalk
import Derived.Deep.RegionHeld3
import Derived.Laws.StructEq
import Derived.Deep.OwnRows
import Derived.Lib.BufferWrite
import Derived.Deep.RegionWith
import Derived.Deep.WholeRow
import Derived.Laws.DeepBits32
import Derived.BigQuiet
import Derived.Deep.QuietTactic
import Derived.StillTailTactics
import Derived.Carry
import Derived.ChangeSlices
import Derived.Lib.SmallJoins
import Derived.Test.YtalefbmoebobkaaGreatDoorS4
import Derived.ShutString
import Derived.OpenShut
/- The iterator of frame: a text, so many bytes at a time. -/
namespace Go.Proofs.YtalefbmoebobkaaGreatDoor
set_option maxRecDepth 100000
open Go.RowKit
attribute [local go_sem] Oper.semAt_some
abbrev Str (m : Nat) := { x : ByteArray // x.size = m }
def pcs (s : ByteArray) (m k : Nat) : List ByteArray := (List.range k).map fun j => s.extract (m * j) (m * j + m)
theorem pcs_succ (s : ByteArray) (m k : Nat) : pcs s m (k + 1) = pcs s m k ++ [s.extract (m * k) (m * k + m)] := by simp [pcs, List.range_succ]
theorem pcs_length (s : ByteArray) (m k : Nat) : (pcs s m k).length = k := by simp [pcs]
set_option maxHeartbeats 2000000 in
theorem pieces_in (n : Nat) (hn : 1 ≤ n) (l b1 b2 m : Nat) (s : ByteArray) (hm : 1 ≤ m) (hm2 : m ≤ 100) (hs : s.size ≤ 1000) (hd : m * (s.size / m) = s.size) (J Jx : List (Str m) → World → Prop)
  (hY : ∀ pre x W, J pre W → pre.length < s.size / m → YieldAt Fence.wide (n - 1) Tryz.prog l #[.string x.1] W fun e W' =>
   (e = .returned (.bool true) ∧ J (pre ++ [x]) W' ∧ KeepB [b1, b2] W W') ∨ (e = .returned (.bool false) ∧ Jx (pre ++ [x]) W'))
  (W : World) (h1 : W.cell? ⟨b1, 0, none⟩ = some (.string s)) (h2 : W.cell? ⟨b2, 0, none⟩ = some (.int .i64 m)) (h0 : J [] W) :
  CallsIn Fence.wide n Tryz.prog 143 #[.func (.yield l) #[] #[], .pointer (some ⟨b1, 0, none⟩), .pointer (some ⟨b2, 0, none⟩)] W fun e W' => (∃ v, e = .returned v) ∧
   ((∃ ys, ys.map (·.1) = pcs s m (s.size / m) ∧ J ys W') ∨ (∃ pre, (∃ k, k ≤ s.size / m ∧ pre.map (·.1) = pcs s m k) ∧ Jx pre W')) := by
 refine callsIn_of_wp Tryz.func143 rfl trivial ?_ rfl
 simp only [Tryz.ntmps143, List.size_toArray, List.length_cons, List.length_nil, Nat.reduceAdd, Nat.reduceSub, Array.replicate_succ, Array.replicate_zero, List.push_toArray, List.append_toArray, List.nil_append, List.cons_append]
 obtain ⟨c, hc⟩ : ∃ c, s.size / m = c := ⟨_, rfl⟩
 rw [hc] at hY hd ⊢
 have hlast : ∀ k, (k < c ↔ m * k < s.size) := by
  intro k
  rw [← hd]
  exact (Nat.mul_lt_mul_left (by omega)).symm
 have hroom : ∀ k, k < c → m * k + m ≤ s.size := by
  intro k hk
  rw [← hd, ← Nat.mul_succ]
  exact Nat.mul_le_mul_left _ hk
 gi_wp2
 gi_loopw [4] (fun i wr => ∃ (k : Nat) (pre : List (Str m)), k ≤ c ∧ i = .int .i64 ((m * k : Nat) : Int) ∧ pre.map (·.1) = pcs s m k ∧ J pre wr ∧ KeepB [b1, b2] W wr)
  (fun i _ => s.size + m - (intOf i).toNat)
 case atStart => exact ⟨0, [], Nat.zero_le _, rfl, rfl, h0, KeepB.refl _ _⟩
 case round =>
  obtain ⟨k, pre, hk, rfl, hp, hJ, hb⟩ := hrel
  have g1 : wr.cell? ⟨b1, 0, none⟩ = some (.string s) := (hb.cell (by simp)).trans h1
  have g2 : wr.cell? ⟨b2, 0, none⟩ = some (.int .i64 m) := (hb.cell (by simp)).trans h2
  obtain ⟨j, hj⟩ : ∃ j, m * k = j := ⟨_, rfl⟩
  rw [hj]
  by_cases hlt : k < c
  ·have hjs : j + m ≤ s.size := by rw [← hj]; exact hroom k hlt
   have hjl : j < s.size := by rw [← hj]; exact (hlast k).1 hlt
   have hjli : (j : Int) < (s.size : Int) := by omega
   have hx : (s.extract j (j + m)).size = m := by rw [ByteArray.size_extract]; omega
   obtain ⟨fn, tmps, assign, body, hy, hR⟩ := hY pre ⟨s.extract j (j + m), hx⟩ wr hJ (by have := congrArg List.length hp; rw [pcs_length, List.length_map] at this; omega)
   dsimp only at hy
   have hjsi : (j : Int) + (m : Int) ≤ (s.size : Int) := by omega
   have hsn : pcs s m (k + 1) = pcs s m k ++ [s.extract j (j + m)] := by rw [pcs_succ, hj]
   gi_wp2
   refine hR.mono ?_
   rintro e W3 (⟨rfl, hJ3, hk3⟩ | ⟨rfl, hJx3⟩)
   ·have g3 : W3.cell? ⟨b1, 0, none⟩ = some (.string s) := (hk3.cell (by simp)).trans g1
    have g4 : W3.cell? ⟨b2, 0, none⟩ = some (.int .i64 m) := (hk3.cell (by simp)).trans g2
    gi_wp2
    go_roundw
    case rel => exact ⟨k + 1, pre ++ [⟨_, hx⟩], by omega, by rw [Nat.mul_succ, hj]; go_num, by rw [List.map_append, hp, hsn]; rfl, hJ3, hb.trans hk3⟩
    case measure => simp [intOf]; omega
   ·gi_wp2
    refine bodyPost_ret (results_none rfl _ _ _) rfl ?_
    exact ⟨⟨_, rfl⟩, .inr ⟨pre ++ [⟨_, hx⟩], ⟨k + 1, by omega, by rw [List.map_append, hp, hsn]; rfl⟩, hJx3⟩⟩
  ·have hjs : ¬ (j : Int) < (s.size : Int) := by have h3 : ¬ m * k < s.size := fun h => hlt ((hlast k).2 h); rw [hj] at h3; omega
   obtain rfl : k = c := by omega
   gi_wp2
   go_end0
   exact ⟨⟨_, rfl⟩, .inl ⟨_, hp, hJ⟩⟩
theorem pieces_stops (n : Nat) (hn : 1 ≤ n) (b1 b2 m : Nat) (s : ByteArray) (hm : 1 ≤ m) (hm2 : m ≤ 100) (hs : s.size ≤ 1000) (hd : m * (s.size / m) = s.size) (w : World) (hb1 : b1 < w.heap.size) (hb2 : b2 < w.heap.size)
  (h1 : w.cell? ⟨b1, 0, none⟩ = some (.string s)) (h2 : w.cell? ⟨b2, 0, none⟩ = some (.int .i64 m)) :
  SeqStopsK Fence.wide n Tryz.prog 143 #[.pointer (some ⟨b1, 0, none⟩), .pointer (some ⟨b2, 0, none⟩)] (fun x : Str m => #[Value.string x.1]) (KeepB [b1, b2])
   (fun ys => ys.map (·.1) = pcs s m (s.size / m)) (fun pre => ∃ k, k ≤ s.size / m ∧ pre.map (·.1) = pcs s m k) (s.size / m) w := fun l J Jx W hW _ _ hY h0 => by
 exact pieces_in n hn l b1 b2 m s hm hm2 hs hd J Jx hY W ((hW.cell (p := ⟨b1, 0, none⟩) hb1).trans h1) ((hW.cell (p := ⟨b2, 0, none⟩) hb2).trans h2) h0
theorem pieces_any (s : ByteArray) (m : Int) (w : World) : Calls Tryz.prog 112 #[.string s, .int .i64 m] w fun r w' =>
  r = .returned (.func (.func 143) #[] #[.pointer (some ⟨w.heap.size, 0, none⟩), .pointer (some ⟨w.heap.size + 1, 0, none⟩)]) ∧ w' = (w.alloc (.cells #[.string s] 9)).alloc (.cells #[.int .i64 m] 3) := by
 go_enter Tryz.func112, Tryz.ntmps112
 go_wp2
 go_ret
 exact ⟨rfl, rfl⟩
/- The reference of layer 4, walked: May, Number, Encode, Of, Decode. -/
def KT (k l q e : Int) (w w' : World) : Prop := w'.cell? ⟨w.heap.size, 0, none⟩ = some (.int .i64 k) ∧ w'.cell? ⟨w.heap.size, 1, none⟩ = some (.int .i64 l) ∧ w'.cell? ⟨w.heap.size, 2, none⟩ = some (.int .i64 q) ∧ w'.cell? ⟨w.heap.size, 3, none⟩ = some (.int .i64 e) ∧ Below w.heap.size w w'
theorem KT.first (k l q e : Int) (w : World) (ty : TypeId) : KT k l q e w (w.alloc (.cells #[.int .i64 k, .int .i64 l, .int .i64 q, .int .i64 e] ty)) :=
 ⟨by rw [World.cell?_alloc_new]; rfl, by rw [World.cell?_alloc_new]; rfl, by rw [World.cell?_alloc_new]; rfl, by rw [World.cell?_alloc_new]; rfl, (Below.refl _ _).alloc (Nat.le_refl _) _⟩
theorem KT.drew {k l q e : Int} {w w' : World} (h : KT k l q e w w') : KT k l q e w w'.drew := ⟨h.1, h.2.1, h.2.2.1, h.2.2.2.1, h.2.2.2.2.drew⟩
theorem KT.call {k l q e : Int} {w w1 w2 : World} (h : KT k l q e w w1) (hb : Below w1.heap.size w1 w2) : KT k l q e w w2 :=
 ⟨(hb.cell (cell_lt h.1)).trans h.1, (hb.cell (cell_lt h.2.1)).trans h.2.1, (hb.cell (cell_lt h.2.2.1)).trans h.2.2.1, (hb.cell (cell_lt h.2.2.2.1)).trans h.2.2.2.1, h.2.2.2.2.trans (hb.mono h.2.2.2.2.size)⟩
theorem KT.alloc {k l q e : Int} {w w1 : World} (h : KT k l q e w w1) (o : Obj) : KT k l q e w (w1.alloc o) := h.call ((Below.refl _ _).alloc (Nat.le_refl _) _)
/- The reference of layer 4, walked: Encode of a tag that may be. -/
def RE (k l q e : Int) (B : Nat) : Nat → Value → World → Prop
 | 0, v, _ => v = .pointer (some ⟨B, 0, none⟩)
 | 1, v, _ => v = .int .i64 k
 | 2, v, _ => v = .int .u8 k
 | 3, v, w => ∃ g, v = .slice (some ⟨g, 0, none⟩) 2 2 ∧ w.cell? ⟨g, 0, none⟩ = some (.int .u8 27) ∧ w.cell? ⟨g, 1, none⟩ = some (.int .u8 k)
 | 4, v, _ => v = .string (strOfNums [27, k])
 | 5, v, _ => v = .pointer (some ⟨B, 1, none⟩)
 | 6, v, _ => v = .int .i64 l
 | 7, v, _ => v = .string (leS l 2)
 | 8, v, _ => v = .string (strOfNums [27, k] ++ leS l 2)
 | 9, v, _ => v = .pointer (some ⟨B, 2, none⟩)
 | 10, v, _ => v = .int .i64 q
 | 11, v, _ => v = .string (leS q 6)
 | 12, v, _ => v = .string ((strOfNums [27, k] ++ leS l 2) ++ leS q 6)
 | 13, v, _ => v = .pointer (some ⟨B, 3, none⟩)
 | 14, v, _ => v = .int .i64 e
 | 15, v, _ => v = .string (leS e 4)
 | 16, v, _ => v = .string (((strOfNums [27, k] ++ leS l 2) ++ leS q 6) ++ leS e 4)
 | 17, v, w => ∃ g, v = .slice (some ⟨g, 0, none⟩) 2 2 ∧ w.cell? ⟨g, 0, none⟩ = some (.int .u8 0) ∧ w.cell? ⟨g, 1, none⟩ = some (.int .u8 0)
 | 18, v, _ => v = .string (strOfNums [0, 0])
 | 19, v, _ => v = .string (tagS k l q e)
 | 20, v, _ => v = .string (tagS k l q e)
 | _, v, _ => v = .int .i64 0
def TB (w w' : World) : Prop := Below w.heap.size w w'
theorem RE.mono {k l q e : Int} {B : Nat} : ∀ (i : Nat) (v : Value) (w w' : World), RE k l q e B i v w → TB w w' → RE k l q e B i v w' := by
 intro i v w w' h hb
 have c3 : ∀ c d : Int, (∃ g, v = .slice (some ⟨g, 0, none⟩) 2 2 ∧ w.cell? ⟨g, 0, none⟩ = some (.int .u8 c) ∧ w.cell? ⟨g, 1, none⟩ = some (.int .u8 d)) → ∃ g, v = .slice (some ⟨g, 0, none⟩) 2 2 ∧ w'.cell? ⟨g, 0, none⟩ = some (.int .u8 c) ∧ w'.cell? ⟨g, 1, none⟩ = some (.int .u8 d) := by
  rintro c d ⟨g, h1, h2, h3⟩
  exact ⟨g, h1, (Below.cell (p := ⟨g, 0, none⟩) hb (cell_lt h2)).trans h2, (Below.cell (p := ⟨g, 1, none⟩) hb (cell_lt h3)).trans h3⟩
 unfold RE at *
 split at h <;> first | exact c3 _ _ h | exact h
def BaseE (B : Nat) (a : Act) : Prop := a.tmps.size = 27 ∧ a.defers = [] ∧ a.tmps.getD 1 undef = .pointer (some ⟨B, 0, none⟩)
theorem BaseE.put {B : Nat} {a : Act} {d : Tmp} {v : Value} (h : BaseE B a) (hd : d ≠ 1) : BaseE B (a.put (some d) v) :=
 ⟨by simp [Act.put, h.1], h.2.1, by rw [← h.2.2]; simp [Act.put, Array.getD_eq_getD_getElem?, Array.getElem?_setIfInBounds_ne hd]⟩
/- The reference of layer 4, walked: Decode of a text that is no tag's bytes by its form. -/
/- The reference of layer 4, walked: Decode of a text that has a tag's form. -/
def ta (k l q e : Int) : Array Value := #[.int .i64 k, .int .i64 l, .int .i64 q, .int .i64 e]
theorem size_tag : (Tryz.prog.info? 110).map (·.size) = some 4 := by kernel_rfl
def SpT (B : Nat) (f : Array Value) (j : Nat) (a : Act) (w : World) : Prop := ∃ g cs, B < g ∧ a.tmps.getD 4 undef = .pointer (some ⟨g, 0, none⟩) ∧ Blk w g cs 110 ∧ cs.size = 4 ∧ (j = 14 → cs = f)
def TT (B : Nat) (f : Array Value) (w w' : World) : Prop := Below (B + 1) w w' ∧ ∀ g cs, B < g → Blk w g cs 110 → cs.size = 4 → ∃ cs', Blk w' g cs' 110 ∧ cs'.size = 4 ∧ (cs = f → cs' = f)
theorem TT.of {B : Nat} {f : Array Value} {w w' : World} (hb : Below w.heap.size w w') (hB : B < w.heap.size) : TT B f w w' :=
 ⟨hb.mono hB, fun _ cs _ h hs => ⟨cs, h.after hb, hs, id⟩⟩
theorem TT.store {B g : Nat} {f cs : Array Value} {w : World} (hg : B < g) (h : Blk w g cs 110) (hf : f.size = 4) : TT B f w (w.setRow g f) :=
 ⟨below_put hg f (Below.refl _ _), fun g' cs' _ h' hs' => by
  by_cases e : g = g'
  ·subst e; exact ⟨f, h.put f, hf, fun _ => rfl⟩
  ·exact ⟨cs', h'.put_other e f, hs', id⟩⟩
theorem SpT.ext {B : Nat} {f : Array Value} : ∀ j a a' w w', SpT B f j a w → (∀ d ∈ [4], a'.tmps.getD d undef = a.tmps.getD d undef) → TT B f w w' → SpT B f j a' w' := by
 rintro j a a' w w' ⟨g, cs, hg, h1, h2, h3, h4⟩ hd hT
 obtain ⟨cs', h5, h6, h7⟩ := hT.2 g cs hg h2 h3
 exact ⟨g, cs', hg, (hd 4 (by simp)).trans h1, h5, h6, fun h => h7 (h4 h)⟩
/- Tags: what Encode, Decode and May answer, as plain functions of their arguments; the reference's, whole; two tags compared. -/
def encT (k l q e : Int) : ByteArray := if MayT k l q e then tagS k l q e else ByteArray.empty
def encE (k l q e : Int) : Int := if MayT k l q e then 0 else 1
def EncT (k l q e : Int) (w : World) (r : Ending) (w' : World) : Prop := r = .returned (.tuple #[.string (encT k l q e), .int .i64 (encE k l q e)]) ∧ Below w.heap.size w w'
def MayPost (k l q e : Int) (w : World) (r : Ending) (w' : World) : Prop := r = .returned (.bool (mayB k l q e)) ∧ Below w.heap.size w w'
/- The reference of layer 3, walked: power, Places, Xor, Bits, Left. -/
def IntsAt (w : World) (g : Nat) (xs : List Nat) : Prop := ∀ i, i < xs.length → w.cell? ⟨g, i, none⟩ = some (.int .i64 ((xs.getD i 0 : Nat) : Int))
theorem IntsAt.below {w w' : World} {B g : Nat} {xs : List Nat} (h : IntsAt w g xs) (hb : Below B w w') (hg : g < B) : IntsAt w' g xs := by
 intro i hi
 rw [hb.cell (p := ⟨g, i, none⟩) hg]; exact h i hi
def Ints (w : World) (v : Value) (xs : List Nat) : Prop := ∃ a ca, v = .slice a xs.length ca ∧ ∀ i, i < xs.length → ∃ b, a = some ⟨b, 0, none⟩ ∧ b < w.heap.size ∧ IntsAt w b xs
theorem Ints.below {w w' : World} {v : Value} {xs : List Nat} (h : Ints w v xs) (hb : Below w.heap.size w w') : Ints w' v xs := by
 obtain ⟨a, ca, h1, h2⟩ := h
 refine ⟨a, ca, h1, fun i hi => ?_⟩
 obtain ⟨b, h3, h4, h5⟩ := h2 i hi
 exact ⟨b, h3, Nat.lt_of_lt_of_le h4 hb.size, h5.below hb h4⟩
/-! power -/
/-! Places -/
/- The reference of layer 3, walked: Xor, Bits, Left. -/
/-! Left -/
theorem place_cell {w : World} {g : Nat} (h : IntsAt w g pl) (i : Nat) (hi : i < 72) : w.cell? ⟨g, i, none⟩ = some (.int .i64 ((place i : Nat) : Int)) := h i hi
/- The reference of layer 3, walked: Bits, Encode, Decode. -/
/- The reference of layer 3, walked: Encode, Decode. -/
def EncPost (s : ByteArray) (w : World) (e : Ending) (w' : World) : Prop := e = .returned (.tuple #[.string (encS s), .int .i64 0]) ∧ Below w.heap.size w w'
/- The reference of layer 3, walked: Decode. -/
def PlAt (w : World) (g : Nat) : Prop := ∀ i, i < 72 → w.cell? ⟨g, i, none⟩ = some (.int .i64 ((place i : Nat) : Int))
theorem PlAt.of {w : World} {g : Nat} (h : IntsAt w g pl) : PlAt w g := fun i hi => place_cell h i hi
theorem PlAt.at {w : World} {g i : Nat} (h : PlAt w g) (hi : i < 72) : w.cell? ⟨g, i, none⟩ = some (.int .i64 ((place i : Nat) : Int)) := h i hi
def NoTo (p k : Nat) : Prop := ∀ j, j < k → place j ≠ p
theorem NoTo.zero (p : Nat) : NoTo p 0 := fun j hj => by omega
theorem NoTo.succ {p k x : Nat} (h : NoTo p k) (hx : place k = x) (hb : ((x : Int) == (p : Int)) = false) : NoTo p (k + 1) := by
 have hxp : x ≠ p := by simp at hb; omega
 intro j hj
 rcases Nat.lt_or_ge j k with h2 | h2
 ·exact h j h2
 ·obtain rfl : j = k := by omega
  rw [hx]; exact hxp
/- The reference of layer 5, walked: Encode. -/
def Four (w : World) (g : Nat) : Prop := ∀ i, i < 4 → w.cell? ⟨g, i, none⟩ = some (.int .u8 0)
theorem Four.after {w w' : World} {g : Nat} (h : Four w g) (hb : Below w.heap.size w w') : Four w' g := fun i hi => (Below.cell (p := ⟨g, i, none⟩) hb (cell_lt (h i hi))).trans (h i hi)
def SpF (d : Tmp) (_ : Nat) (a : Act) (w : World) : Prop := ∃ g, a.tmps.getD d undef = .slice (some ⟨g, 0, none⟩) 4 4 ∧ Four w g
theorem SpF.ext {d : Tmp} : ∀ j a a' w w', SpF d j a w → (∀ s ∈ [d], a'.tmps.getD s undef = a.tmps.getD s undef) → Goes w w' → SpF d j a' w' := by
 rintro j a a' w w' ⟨g, h1, h2⟩ hd hT
 exact ⟨g, (hd d (by simp)).trans h1, h2.after hT⟩
def Kept (w0 w : World) : Prop := Below w0.heap.size w0 w
theorem Kept.call {w0 w w' : World} (h : Kept w0 w) (hb : Below w.heap.size w w') : Kept w0 w' := Below.trans h (hb.mono (Below.size h))
theorem Kept.drew {w0 w : World} (h : Kept w0 w) : Kept w0 w.drew := Below.drew h
def BaseFE (hd data : ByteArray) (a : Act) : Prop := ∃ u : Nat → Value, a = ⟨#[u 0, .string data, u 2, u 3, u 4, u 5, .string hd, u 7, u 8, u 9, u 10, u 11, u 12, u 13, u 14, u 15, u 16, u 17, u 18, u 19, u 20, u 21, u 22, u 23, u 24, u 25, u 26, u 27, u 28, u 29, u 30, u 31, u 32, u 33, u 34, u 35, u 36, u 37, u 38, u 39, u 40, u 41, u 42, u 43, u 44, u 45, u 46, u 47, u 48, u 49, u 50, u 51], []⟩
def FrEnc (k l q e : Int) (data : ByteArray) (w : World) (r : Ending) (w' : World) : Prop := r = .returned (.tuple #[.string (frT k l q e data), .int .i64 (frE k l q e data)]) ∧ Below w.heap.size w w'
/- Plain facts for the code of package ham: what is left of the places, byte by byte, and how many bits are 1, taken together. -/
def leftB (k b : Nat) : Nat → Nat
 | 0 => 0
 | j + 1 => leftB k b j ^^^ (if b.testBit j then place (8 * k + j) else 0)
theorem left_seg (M k b : Nat) : ∀ j, (∀ i, i < j → M.testBit (8 * k + i) = b.testBit i) → left M (8 * k + j) = left M (8 * k) ^^^ leftB k b j
 | 0, _ => by show _ = left M (8 * k) ^^^ 0; rw [Nat.xor_zero]; rfl
 | j + 1, h => by
  show left M (8 * k + j) ^^^ (if M.testBit (8 * k + j) then place (8 * k + j) else 0) = left M (8 * k) ^^^ (leftB k b j ^^^ (if b.testBit j then place (8 * k + j) else 0))
  rw [left_seg M k b j (fun i hi => h i (by omega)), h j (by omega), Nat.xor_assoc]
theorem cnt_seg (M k b : Nat) : ∀ j, (∀ i, i < j → M.testBit (8 * k + i) = b.testBit i) → cnt M (8 * k + j) = cnt M (8 * k) + cnt b j
 | 0, _ => rfl
 | j + 1, h => by
  show cnt M (8 * k + j) + (if M.testBit (8 * k + j) then 1 else 0) = cnt M (8 * k) + (cnt b j + (if b.testBit j then 1 else 0))
  rw [cnt_seg M k b j (fun i hi => h i (by omega)), h j (by omega), Nat.add_assoc]
def tz (b : Nat) : Nat := if b % 2 = 1 then 0 else if b / 2 % 2 = 1 then 1 else if b / 4 % 2 = 1 then 2 else if b / 8 % 2 = 1 then 3 else if b / 16 % 2 = 1 then 4 else if b / 32 % 2 = 1 then 5 else if b / 64 % 2 = 1 then 6 else 7
theorem tz_lt (b : Nat) : tz b < 8 := by
 unfold tz
 repeat' split
 all_goals decide
theorem low_lt : ∀ b, b < 256 → 0 < b → (b &&& (b - 1)) < b := by decide +kernel
theorem low_bits : ∀ b : Nat, b < 256 → 0 < b → bits .and .u8 (b : Int) ((b : Int) - 1) = ((b &&& (b - 1) : Nat) : Int) := by decide +kernel
theorem leftB_low : ∀ k, k < 8 → ∀ b, b < 256 → 0 < b → leftB k b 8 = place (8 * k + tz b) ^^^ leftB k (b &&& (b - 1)) 8 := by decide +kernel
theorem leftB_zero : ∀ k, k < 9 → leftB k 0 8 = 0 := by decide +kernel
theorem leftB_check : ∀ b, b < 256 → leftB 8 b 8 = b % 128 := by decide +kernel
theorem xor_u8 (a b : Nat) (ha : a < 256) (hb : b < 256) : bits .xor .u8 (a : Int) (b : Int) = ((a ^^^ b : Nat) : Int) := by
 have hx : a ^^^ b < 2 ^ 8 := Nat.xor_lt_two_pow (by omega) (by omega)
 have h1 : (BitVec.ofInt 8 (a : Int)).toNat = a := by
  rw [BitVec.ofInt_natCast, BitVec.toNat_ofNat]; exact Nat.mod_eq_of_lt (by omega)
 have h2 : (BitVec.ofInt 8 (b : Int)).toNat = b := by
  rw [BitVec.ofInt_natCast, BitVec.toNat_ofNat]; exact Nat.mod_eq_of_lt (by omega)
 show IntKind.u8.wrap ((BitVec.ofInt 8 (a : Int) ^^^ BitVec.ofInt 8 (b : Int)).toNat : Int) = _
 rw [BitVec.toNat_xor, h1, h2, IntKind.wrap_u8]
 omega
theorem not_top : ∀ b : Nat, b < 256 → bits .andNot .u8 (b : Int) 128 = ((b % 128 : Nat) : Int) := by decide +kernel
theorem or_top : ∀ b : Nat, b < 128 → bits .or .u8 (b : Int) 128 = ((b + 128 : Nat) : Int) := by decide +kernel
def ca (l : List UInt8) : Array Value := (Lib.byteCells l).toArray
theorem ca_size (l : List UInt8) : (ca l).size = l.length := by simp [ca, Lib.byteCells]
theorem ca_at (l : List UInt8) (i : Nat) (h : i < l.length) : (ca l)[i]? = some (.int .u8 ((l.getD i 0).toNat : Int)) := by
 simp [ca, Lib.byteCells, h, List.getD]
theorem ca_set (l : List UInt8) (i n : Nat) (hn : n < 256) : (ca l).setIfInBounds i (.int .u8 (n : Int)) = ca (l.set i (UInt8.ofNat n)) := by
 have e : (Value.int .u8 (n : Int)) = .int .u8 ((UInt8.ofNat n).toNat : Int) := by
  congr 1
  simp
  omega
 simp [ca, Lib.byteCells, List.map_set, e]
def by_ (l : List UInt8) (i : Nat) : Nat := (l.getD i 0).toNat
theorem by_lt (l : List UInt8) (i : Nat) : by_ l i < 256 := (l.getD i 0).toNat_lt
theorem ca_by (l : List UInt8) (i : Nat) (h : i < l.length) : (ca l)[i]? = some (.int .u8 (by_ l i : Int)) := ca_at l i h
theorem by_bit (l : List UInt8) (k i : Nat) (hk : k < l.length) (hi : i < 8) : (numN l).testBit (8 * k + i) = (by_ l k).testBit i :=
 numN_bit l k i _ (by simp [List.getD, hk]) hi
theorem left_by (l : List UInt8) (k : Nat) (hk : k < l.length) : left (numN l) (8 * (k + 1)) = left (numN l) (8 * k) ^^^ leftB k (by_ l k) 8 :=
 left_seg _ _ _ 8 fun i hi => by_bit l k i hk hi
theorem cnt_by (l : List UInt8) (k : Nat) (hk : k < l.length) : cnt (numN l) (8 * (k + 1)) = cnt (numN l) (8 * k) + cnt (by_ l k) 8 :=
 cnt_seg _ _ _ 8 fun i hi => by_bit l k i hk hi
def lp (l : List UInt8) (k : Nat) : Nat := by_ l 8 % 128 ^^^ left (numN l) (8 * k)
theorem lp_zero (l : List UInt8) : lp l 0 = by_ l 8 % 128 := by unfold lp; show _ ^^^ 0 = _; rw [Nat.xor_zero]
theorem lp_lt (l : List UInt8) (k : Nat) : lp l k < 128 := Nat.xor_lt_two_pow (n := 7) (Nat.mod_lt _ (by decide)) (left_lt _ _)
theorem lp_succ (l : List UInt8) (k : Nat) (hk : k < l.length) : lp l (k + 1) = lp l k ^^^ leftB k (by_ l k) 8 := by
 unfold lp; rw [left_by l k hk, Nat.xor_assoc]
theorem lp_all (l : List UInt8) (h : l.length = 9) : lp l 8 = left (numN l) 72 := by
 have h1 := left_by l 8 (by omega)
 have h2 : left (numN l) 72 = left (numN l) 64 ^^^ leftB 8 (by_ l 8) 8 := h1
 unfold lp
 rw [h2, leftB_check _ (by_lt l 8), Nat.xor_comm]
def xa (l : List UInt8) : Nat → Nat
 | 0 => 0
 | k + 1 => xa l k ^^^ by_ l k
theorem xa_lt (l : List UInt8) : ∀ k, xa l k < 256
 | 0 => by show (0 : Nat) < 256; decide
 | k + 1 => Nat.xor_lt_two_pow (n := 8) (xa_lt l k) (by_lt l k)
theorem xa_cnt (l : List UInt8) : ∀ k, k ≤ l.length → cnt (xa l k) 8 % 2 = cnt (numN l) (8 * k) % 2
 | 0, _ => by show cnt 0 8 % 2 = _; rw [cnt_zero]; rfl
 | k + 1, h => by
  show cnt (xa l k ^^^ by_ l k) 8 % 2 = _
  rw [cnt_xor, cnt_by l k (by omega)]
  have := xa_cnt l k (by omega)
  omega
def oddB (l : List UInt8) : Bool := decide (cnt (numN l) 72 % 2 = 1)
/- Contracts of package ham: left, isOdd, turned. -/
set_option maxRecDepth 1000000 in
theorem tz_any (b : Nat) (w : World) (h0 : 0 < b) (h1 : b < 256) :
  Calls Tryz.prog 164 #[.int .u8 b] w fun e w' => e = .returned (.int .i64 (tz b : Nat)) ∧ w = w' := by
 go_enter Tryz.func164, Tryz.ntmps164
 go_wp2
 go_ret
 refine ⟨ret_int ?_, rfl⟩
 rw [← getElem!_pos]
 revert h0
 revert b
 decide +kernel
set_option maxRecDepth 1000000 in
theorem ones_any (b : Nat) (w : World) (h1 : b < 256) :
  Calls Tryz.prog 165 #[.int .u8 b] w fun e w' => e = .returned (.int .i64 (cnt b 8 : Nat)) ∧ w = w' := by
 go_enter Tryz.func165, Tryz.ntmps165
 go_wp2
 go_ret
 refine ⟨ret_int ?_, rfl⟩
 rw [← getElem!_pos]
 revert b
 decide +kernel
theorem size_ca (l : List UInt8) (hl : l.length = 9) : (Tryz.prog.info? 176).map (·.size) = some (ca l).size := by rw [ca_size, hl]; kernel_rfl
theorem index_ca (l : List UInt8) (hl : l.length = 9) (k : Nat) (hk : k < 9) (w : World) : (Instr.index 176 (.agg (ca l)) (.int .i64 (k : Int))).run Tryz.prog w = .ok (.int .u8 (by_ l k : Int)) w := by
 obtain ⟨i0, hi, hz0, hz1, hz2⟩ := info_parts Tryz.infoU8
 have h := ca_by l k (by omega)
 have h2 : k < (ca l).size := by rw [ca_size]; omega
 have hu := Tryz.underlying176
 simp [Instr.index, asIntOf, run_underlying hu, hk, part, sizeOf, typeInfo, hi, hz1, isAgg, run_underlying Tryz.underlying5, h, go_sem]
theorem odd_eq (l : List UInt8) (hl : l.length = 9) (n : Nat) (h : cnt (xa l 9) 8 = n) : ((n : Int) % 2 == 1) = oddB l := by
 have h1 := xa_cnt l 9 (by omega)
 rw [h, show 8 * 9 = 72 from rfl] at h1
 unfold oddB
 rw [← h1]
 by_cases h2 : n % 2 = 1
 ·rw [decide_eq_true h2]; simp; omega
 ·rw [decide_eq_false h2]; simp; omega
theorem ham_odd (l : List UInt8) (w : World) (hl : l.length = 9) :
  Calls Tryz.prog 146 #[.agg (ca l)] w fun e w' => e = .returned (.bool (oddB l)) ∧ Below w.heap.size w w' := by
 have hs := size_ca l hl
 have HI := Lib.hid (fun k hk w => index_ca l hl k hk w)
 have HL := Lib.hid hl
 clear hl
 go_enter Tryz.func146, Tryz.ntmps146
 go_wp2_with (refine wpList_load_row rfl 176 (.tmp 1) rfl w.heap.size rfl 176 (ca l) (0, 0) _ (heap_alloc_new _ _) Tryz.underlying176 rfl hs ?_)
 go_loop [3, 7] (fun x i => ∃ k : Nat, k ≤ 9 ∧ i = .int .i64 k ∧ x = .int .u8 (xa l k : Nat)) (fun _ i => 9 - (intOf i).toNat)
 case atStart => exact ⟨0, by omega, rfl, rfl⟩
 case round =>
  obtain ⟨k, hk, rfl, rfl⟩ := hrel
  by_cases hlt : k < 9
  ·have hi := HI.out k hlt
   have hx := xor_u8 (xa l k) (by_ l k) (xa_lt l k) (by_lt l k)
   have HX : Hid (xa l (k + 1) = xa l k ^^^ by_ l k) := rfl
   obtain ⟨x, hxe⟩ : ∃ x, xa l k = x := ⟨_, rfl⟩
   obtain ⟨b, hbe⟩ : ∃ b, by_ l k = b := ⟨_, rfl⟩
   rw [hxe, hbe] at HX hx
   rw [hbe] at hi
   rw [hxe]
   clear hxe hbe
   go_wp2
   go_round
   case rel => exact ⟨k + 1, by omega, by go_num, by rw [HX.out]⟩
   case measure => simp [intOf]; omega
  ·obtain rfl : k = 9 := by omega
   obtain ⟨x, hxe⟩ : ∃ x, xa l 9 = x := ⟨_, rfl⟩
   have hx256 : x < 256 := by rw [← hxe]; exact xa_lt l 9
   have HO := Lib.hid (odd_eq l HL.out)
   rw [hxe] at HO ⊢
   clear hxe
   go_wp2_with fail
   refine (ones_any x _ hx256).mono ?_
   rintro e w' ⟨rfl, rfl⟩
   obtain ⟨n, hn⟩ : ∃ n, cnt x 8 = n := ⟨_, rfl⟩
   have hn8 : n ≤ 8 := by rw [← hn]; exact cnt_le x 8
   have HN := Lib.hid hn
   rw [hn]
   clear hn
   go_wp2
   go_ret
   exact ⟨ret_bool (HO.out n HN.out), (Below.refl _ _).alloc (Nat.le_refl _) _⟩
theorem ham_left (l : List UInt8) (w : World) (hl : l.length = 9) (hT : ∀ i, i < 64 → w.cell? ⟨0, i, none⟩ = some (.int .u8 ((place i : Nat) : Int))) (hg : 0 < w.heap.size) :
  Calls Tryz.prog 145 #[.agg (ca l)] w fun e w' => e = .returned (.int .u8 (left (numN l) 72 : Nat)) ∧ Below w.heap.size w w' := by
 have HC := Lib.hid (fun k (hk : k < 9) => show (w.alloc (.cells (ca l) 176)).cell? ⟨w.heap.size, k, none⟩ = some (.int .u8 (by_ l k : Int)) by rw [World.cell?_alloc_new]; exact ca_by l k (by omega))
 have HT := Lib.hid (fun k (hk : k < 64) => show (w.alloc (.cells (ca l) 176)).cell? ⟨0, k, none⟩ = some (.int .u8 ((place k : Nat) : Int)) by
  rw [((Below.refl w.heap.size w).alloc (Nat.le_refl _) _).cell (p := ⟨0, k, none⟩) hg]; exact hT k hk)
 have HL := Lib.hid hl
 clear hl hT
 have h8 := HC.out 8 (by omega)
 have hnt := not_top (by_ l 8) (by_lt l 8)
 rw [← lp_zero] at hnt
 obtain ⟨c8, hc8⟩ : ∃ c8, by_ l 8 = c8 := ⟨_, rfl⟩
 have hc256 : c8 < 256 := by rw [← hc8]; exact by_lt l 8
 rw [hc8] at h8 hnt
 clear hc8
 go_enter Tryz.func145, Tryz.ntmps145
 go_wp2
 clear hnt h8 hc256
 go_loop [3, 9] (fun x i => ∃ k : Nat, k ≤ 8 ∧ i = .int .i64 k ∧ x = .int .u8 (lp l k : Nat)) (fun _ i => 8 - (intOf i).toNat)
 case atStart => exact ⟨0, by omega, rfl, rfl⟩
 case round =>
  obtain ⟨k, hk, rfl, rfl⟩ := hrel
  by_cases hlt : k < 8
  ·have hck := HC.out k (by omega)
   have HS := Lib.hid (lp_succ l k (by rw [HL.out]; omega))
   have HZ := Lib.hid (leftB_zero k (by omega))
   obtain ⟨b0, hb0⟩ : ∃ b, by_ l k = b := ⟨_, rfl⟩
   have hb256 : b0 < 256 := by rw [← hb0]; exact by_lt l k
   obtain ⟨x0, hx0⟩ : ∃ x, lp l k = x := ⟨_, rfl⟩
   have hx128 : x0 < 128 := by rw [← hx0]; exact lp_lt l k
   rw [hb0, hx0] at HS
   rw [hb0] at hck
   rw [hx0]
   clear hb0 hx0
   go_wp2
   go_loop [3, 5] (fun p b => ∃ x c : Nat, x < 128 ∧ c < 256 ∧ x ^^^ leftB k c 8 = x0 ^^^ leftB k b0 8 ∧ p = .int .u8 x ∧ b = .int .u8 c) (fun _ b => (intOf b).toNat)
   case atStart => exact ⟨x0, b0, hx128, hb256, rfl, rfl, rfl⟩
   case round =>
    obtain ⟨x, c, hx, hc, hxc, rfl, rfl⟩ := hrel
    have HXC := Lib.hid hxc
    clear hxc
    by_cases hc0 : 0 < c
    ·have hcn : ((c : Int) != 0) = true := by simp; omega
     have hlow := low_bits c hc hc0
     have hlt2 := low_lt c hc hc0
     have HB := Lib.hid (leftB_low k hlt c hc hc0)
     have ht8 := tz_lt c
     obtain ⟨d, hd⟩ : ∃ d, c &&& (c - 1) = d := ⟨_, rfl⟩
     rw [hd] at hlow hlt2 HB
     clear hd
     go_wp2_with fail
     refine (tz_any c _ hc0 hc).mono ?_
     rintro e w' ⟨rfl, rfl⟩
     obtain ⟨t, ht⟩ : ∃ t, tz c = t := ⟨_, rfl⟩
     rw [ht] at ht8 HB ⊢
     clear ht
     have htk := HT.out (8 * k + t) (by omega)
     have hpl := place_le (8 * k + t)
     obtain ⟨y, hy⟩ : ∃ y, place (8 * k + t) = y := ⟨_, rfl⟩
     rw [hy] at htk hpl HB
     clear hy
     have hxy := xor_u8 x y (by omega) (by omega)
     have hxy7 : x ^^^ y < 128 := Nat.xor_lt_two_pow (n := 7) hx (by omega)
     go_wp2
     go_round
     case rel => exact ⟨x ^^^ y, d, hxy7, by omega, by rw [← HXC.out, HB.out, Nat.xor_assoc], rfl, rfl⟩
     case measure => simp [intOf]; omega
    ·obtain rfl : c = 0 := by omega
     go_wp2
     go_round
     case rel => exact ⟨k + 1, by omega, by go_num, by have h := HXC.out; rw [HZ.out, Nat.xor_zero] at h; rw [HS.out, ← h]⟩
     case measure => simp [intOf]; omega
  ·obtain rfl : k = 8 := by omega
   have HA := Lib.hid (lp_all l HL.out)
   go_wp2
   go_ret
   exact ⟨ret_int (by rw [HA.out]), (Below.refl _ _).alloc (Nat.le_refl _) _⟩
/- Contracts of package ham: turned. -/
def ChunkAt (w : World) (b : Nat) (l : List UInt8) : Prop := w.heap[b]? = some (.cells (ca l) 176 (0, 0))
theorem ChunkAt.cell {w : World} {b : Nat} {l : List UInt8} (h : ChunkAt w b l) (i : Nat) (hi : i < l.length) : w.cell? ⟨b, i, none⟩ = some (.int .u8 (by_ l i : Int)) := by
 have h2 : w.cell? ⟨b, i, none⟩ = (ca l)[i]? := by unfold ChunkAt at h; simp [World.cell?, h]
 rw [h2]; exact ca_by l i hi
theorem ChunkAt.free {w : World} {b : Nat} {l : List UInt8} (h : ChunkAt w b l) (i : Nat) : w.frozen? ⟨b, i, none⟩ = false := by
 unfold ChunkAt at h; simp [World.frozen?, h]
theorem ChunkAt.alloc {w : World} {b : Nat} {l : List UInt8} (h : ChunkAt w b l) (o : Obj) : ChunkAt (w.alloc o) b l := by
 have hb : b < w.heap.size := (Array.getElem?_eq_some_iff.1 h).1
 unfold ChunkAt at *
 (first | rw [heap_alloc_old _ _ hb] | rw [heap_alloc_old _ _ _ hb]); exact h
theorem ChunkAt.new (w : World) (l : List UInt8) : ChunkAt (w.alloc (.cells (ca l) 176)) w.heap.size l := heap_alloc_new _ _
theorem ChunkAt.drew {w : World} {b : Nat} {l : List UInt8} (h : ChunkAt w b l) : ChunkAt w.drew b l := h
theorem ChunkAt.set {w : World} {b : Nat} {l : List UInt8} (h : ChunkAt w b l) (i : Nat) (v : Value) (m : List UInt8) (he : (ca l).setIfInBounds i v = ca m) : ChunkAt (w.setCell ⟨b, i, none⟩ v) b m := by
 unfold ChunkAt at *
 rw [heap_setCell_same _ _ _ _ _ _ h, he]
theorem ChunkAt.set_other {w : World} {b c : Nat} {l : List UInt8} (h : ChunkAt w b l) (hne : c ≠ b) (i : Nat) (v : Value) : ChunkAt (w.setCell ⟨c, i, none⟩ v) b l := by
 unfold ChunkAt at *
 rw [Below.heap_setCell _ _ _ _ (Ne.symm hne)]; exact h
theorem ChunkAt.put {w : World} {b : Nat} {l m : List UInt8} (h : ChunkAt w b l) : ChunkAt (w.setRow b (ca m)) b m := by
 unfold ChunkAt at *
 exact setRow_heap w b (ca l) (ca m) _ _ h
theorem zero_ca : (#[.int .u8 0, .int .u8 0, .int .u8 0, .int .u8 0, .int .u8 0, .int .u8 0, .int .u8 0, .int .u8 0, .int .u8 0] : Array Value) = ca (List.replicate 9 0) := rfl
/- Contracts of package ham: Encode, Decode. -/
def HamTab (w : World) : Prop := ∀ i, i < 64 → w.cell? ⟨0, i, none⟩ = some (.int .u8 ((place i : Nat) : Int))
theorem HamTab.below {w w' : World} {B : Nat} (h : HamTab w) (hb : Below B w w') (hB : 0 < B) : HamTab w' := by
 intro i hi
 rw [hb.cell (p := ⟨0, i, none⟩) hB]; exact h i hi
theorem tab_place : ∀ i, i < 64 → ([3, 5, 6, 7, 9, 10, 11, 12, 13, 14, 15, 17, 18, 19, 20, 21, 22, 23, 24, 25, 26, 27, 28, 29, 30, 31, 33, 34, 35, 36, 37, 38, 39, 40, 41, 42, 43, 44, 45, 46, 47, 48, 49, 50, 51, 52, 53, 54, 55, 56, 57, 58, 59, 60, 61, 62, 63, 65, 66, 67, 68, 69, 70, 71] : List Int).getD i 0 = ((place i : Nat) : Int) := by decide +kernel
theorem hamTab_of {w : World} (h : ∀ i, i < 64 → w.cell? ⟨0, i, none⟩ = some (.int .u8 (([3, 5, 6, 7, 9, 10, 11, 12, 13, 14, 15, 17, 18, 19, 20, 21, 22, 23, 24, 25, 26, 27, 28, 29, 30, 31, 33, 34, 35, 36, 37, 38, 39, 40, 41, 42, 43, 44, 45, 46, 47, 48, 49, 50, 51, 52, 53, 54, 55, 56, 57, 58, 59, 60, 61, 62, 63, 65, 66, 67, 68, 69, 70, 71] : List Int).getD i 0))) : HamTab w := by
 intro i hi
 rw [h i hi, tab_place i hi]
theorem ChunkAt.below {w w' : World} {b B : Nat} {l : List UInt8} (h : ChunkAt w b l) (hb : Below B w w') (hB : b < B) : ChunkAt w' b l := by
 unfold ChunkAt at *
 rw [hb.block b hB]; exact h
theorem ChunkAt.lt {w : World} {b : Nat} {l : List UInt8} (h : ChunkAt w b l) : b < w.heap.size := (Array.getElem?_eq_some_iff.1 h).1
theorem ChunkAt.after {w w' : World} {b : Nat} {l : List UInt8} (h : ChunkAt w b l) (hb : Below w.heap.size w w') : ChunkAt w' b l := h.below hb h.lt
theorem ChunkAt.conv {w : World} {b : Nat} {l : List UInt8} (h : ChunkAt w b l) (n cap : Nat) (hn : n ≤ l.length) :
  Sem.run Tryz.prog (convert 112 9 (.slice (some ⟨b, 0, none⟩) n cap)) w = .ok (.string ⟨(l.take n).toArray⟩) w := by
 have hr := run_convert_bytes_arg (P := Tryz.prog) w 112 5 Tryz.underlying112 Tryz.underlying5 b 0 n cap ((l.take n).map fun c => (c.toNat : Int)) (by simp; omega) (by
  intro i hi
  rw [Nat.zero_add, h.cell i (by omega)]
  have h3 : i < l.length := by omega
  simp [List.getD, by_, h3, List.getElem?_take_of_lt hi]) 9 Tryz.underlying9
 rw [hr]
 congr 2
 apply strOfNums_eq
 rw [List.map_map]
 have e : ((fun n : Int => UInt8.ofNat n.toNat) ∘ fun b : UInt8 => (b.toNat : Int)) = id := by funext b; simp
 rw [e, List.map_id]
theorem copy_chunk (s : ByteArray) (w : World) (hs : s.size ≤ 9) (ty : TypeId) :
  Sem.run Tryz.prog (Builtin.copy_ #[112, 9] ty #[.slice (some ⟨w.heap.size, 0, none⟩) 9 9, .string s]) (w.alloc (.cells #[.int .u8 0, .int .u8 0, .int .u8 0, .int .u8 0, .int .u8 0, .int .u8 0, .int .u8 0, .int .u8 0, .int .u8 0] 176))
   = .ok (goInt s.size) (w.alloc (.cells (ca (bs s ++ List.replicate (9 - s.size) 0)) 176)) := by
 obtain ⟨i0, hi, hz0, hz1, hz2⟩ := info_parts Tryz.infoU8
 have h := Lib.run_copy_row_string (P := Tryz.prog) (w.alloc (.cells (ca (List.replicate 9 0)) 176)) 112 9 ty 5 w.heap.size 0 9 9 s (ca (List.replicate 9 0)) 176 Tryz.underlying112 (by rw [hi]; simp [hz1]) (heap_alloc_new _ _) hs (by rw [ca_size]; simp; omega)
 rw [zero_ca, h, World.setRow_alloc_new]
 congr 3
 have e : (ca (List.replicate 9 0)).toList = Lib.byteCells (List.replicate 9 0) := rfl
 rw [e]
 unfold ca
 congr 1
 rw [List.take_zero, List.nil_append]
 unfold Lib.byteCells bs
 rw [List.map_append, ← List.map_drop, List.drop_replicate, Nat.zero_add]
def encL (s : ByteArray) (x : Nat) : List UInt8 := bs s ++ [UInt8.ofNat x]
theorem encL_length (s : ByteArray) (x : Nat) (h : s.size = 8) : (encL s x).length = 9 := by simp [encL, bs_length, h]
theorem encL_by (s : ByteArray) (x : Nat) (h : s.size = 8) (hx : x < 256) : by_ (encL s x) 8 = x := by
 have e : (encL s x).getD 8 0 = UInt8.ofNat x := by
  have h8 : (bs s).length = 8 := by rw [bs_length, h]
  simp [encL, List.getD, h8]
 unfold by_
 rw [e]
 simp; omega
theorem encL_set (s : ByteArray) (x y : Nat) (h : s.size = 8) (hy : y < 256) : (ca (encL s x)).setIfInBounds 8 (.int .u8 (y : Int)) = ca (encL s y) := by
 rw [ca_set _ _ _ hy]
 congr 1
 unfold encL
 have h8 : (bs s).length = 8 := by rw [bs_length, h]
 rw [show 8 = (bs s).length + 0 by omega, List.set_append_right _ _ (by omega)]
 simp
theorem encL_num (s : ByteArray) (x : Nat) (h : s.size = 8) (hx : x < 256) : numN (encL s x) = numN (bs s) ^^^ 2 ^ 64 * x := by
 unfold encL
 have hn : numN [UInt8.ofNat x] = x := by
  show (UInt8.ofNat x).toNat + 256 * 0 = _
  simp; omega
 rw [numN_append, bs_length, h, hn]
 exact add_xor _ _ _ (num_lt s h)
theorem encL_left (s : ByteArray) (h : s.size = 8) : left (numN (encL s 0)) 72 = left (numN (bs s)) 64 := by
 rw [encL_num s 0 h (by decide), Nat.mul_zero, Nat.xor_zero, left_64 (num_lt s h)]
theorem encL_odd (s : ByteArray) (h : s.size = 8) : oddB (encL s (left (numN (bs s)) 64)) = decide ((cnt (numN (bs s)) 64 + cnt (left (numN (bs s)) 64) 7) % 2 = 1) := by
 have hl := left_lt (numN (bs s)) 64
 unfold oddB
 rw [encL_num s _ h (by omega)]
 have h1 := check_cnt (p := left (numN (bs s)) 64) (q := 0) hl (by decide)
 rw [cnt_xor, cnt_64 (num_lt s h)]
 rw [Nat.mul_zero, Nat.add_zero] at h1
 rw [h1, Nat.add_zero]
theorem encS_eq (s : ByteArray) (x : Nat) (h : s.size = 8) (he : encN (numN (bs s)) = x) : (⟨((encL s x).take 9).toArray⟩ : ByteArray) = encS s := by
 rw [List.take_of_length_le (by rw [encL_length s x h]; omega), ← he]; rfl
theorem encL_start (s : ByteArray) (h : s.size = 8) : bs s ++ List.replicate (9 - s.size) 0 = encL s 0 := by rw [h]; rfl
theorem ham_enc_at (s : ByteArray) (w : World) (h : s.size = 8) (hT : HamTab w) (hg : 0 < w.heap.size) : Calls Tryz.prog 114 #[.string s] w (EncPost s w) := by
 have hcp := fun ty => copy_chunk s w (by omega) ty
 rw [encL_start s h] at hcp
 have h8 : (s.size : Int) = 8 := by omega
 have hl0 := encL_length s 0 h
 have hs0 := size_ca (encL s 0) hl0
 have HLL := Lib.hid (encL_left s h)
 have HLO := Lib.hid (encL_odd s h)
 have HLS := Lib.hid (fun x he => encS_eq s x h he)
 have HLen := Lib.hid (fun x => encL_length s x h)
 have HSet := Lib.hid (fun x y hy => encL_set s x y h hy)
 have HBy := Lib.hid (fun x hx => encL_by s x h hx)
 have HEN : Hid (encN (numN (bs s)) = left (numN (bs s)) 64 + 128 * ((cnt (numN (bs s)) 64 + cnt (left (numN (bs s)) 64) 7) % 2)) := rfl
 have hL := left_lt (numN (bs s)) 64
 obtain ⟨L, hLe⟩ : ∃ L, left (numN (bs s)) 64 = L := ⟨_, rfl⟩
 obtain ⟨C, hCe⟩ : ∃ C, cnt (numN (bs s)) 64 + cnt L 7 = C := ⟨_, rfl⟩
 rw [hLe] at HLL HLO hL HEN
 rw [hCe] at HLO HEN
 clear hLe hCe
 have HT := Lib.hid hT
 clear hT
 go_enter Tryz.func114, Tryz.ntmps114
 go_wp2_with (refine wpList_load_row rfl 176 (.tmp 4) rfl w.heap.size rfl 176 (ca (encL s 0)) (0, 0) _ (heap_alloc_new _ _) Tryz.underlying176 rfl hs0 ?_)
 refine (ham_left (encL s 0) _ hl0 (HT.out.below ((Below.refl _ _).alloc (Nat.le_refl _) _) hg) (by simp <;> omega)).mono ?_
 rintro e w1 ⟨rfl, hb1⟩
 rw [HLL.out]
 have hC1 : ChunkAt w1 w.heap.size (encL s 0) := (ChunkAt.new w (encL s 0)).after hb1
 have HB1 : Hid (Below w.heap.size w w1) := ((Below.refl _ _).alloc (Nat.le_refl _) _).trans (hb1.mono (by simp))
 have hcell := hC1.cell 8 (by rw [hl0]; omega)
 have hfree := hC1.free 8
 have HS := Lib.hid (HSet.out 0 L (by omega))
 have HC1 := Lib.hid hC1
 have hsL := size_ca (encL s L) (HLen.out L)
 clear hb1 hC1 hs0 hl0 hcp
 go_wp2_with (refine wpList_load_row rfl 176 (.tmp 4) rfl w.heap.size rfl 176 (ca (encL s L)) (0, 0) _ (HC1.out.set 8 _ _ HS.out) Tryz.underlying176 rfl hsL ?_)
 refine (ham_odd (encL s L) _ (HLen.out L)).mono ?_
 rintro e w2 ⟨rfl, hb2⟩
 rw [HLO.out]
 have hC2 : ChunkAt w2 w.heap.size (encL s L) := (HC1.out.set 8 _ _ HS.out).after hb2
 have HB2 : Hid (Below w.heap.size w w2) := (HB1.out.setCell (Nat.le_refl _) _).trans (hb2.mono (by simpa using HB1.out.size))
 clear hb2 hcell hfree hsL
 by_cases hC : C % 2 = 1
 ·obtain ⟨y, hy⟩ : ∃ y, L + 128 = y := ⟨_, rfl⟩
  rw [decide_eq_true hC]
  have hcell := hC2.cell 8 (by rw [HLen.out]; omega)
  rw [HBy.out L (by omega)] at hcell
  have hfree := hC2.free 8
  have hor := or_top L hL
  rw [hy] at hor
  have hC3 := hC2.set 8 _ _ (HSet.out L y (by omega))
  have hcv := hC3.conv 9 9 (by rw [HLen.out]; omega)
  have HE : Hid ((⟨((encL s y).take 9).toArray⟩ : ByteArray) = encS s) := HLS.out y (by rw [HEN.out, ← hy, hC])
  clear hC3 hC2 hy hC
  go_wp2
  go_ret2
  exact ⟨ret_str HE.out, HB2.out.setCell (Nat.le_refl _) _⟩
 ·rw [decide_eq_false hC]
  have hcv := hC2.conv 9 9 (by rw [HLen.out]; omega)
  have HE : Hid ((⟨((encL s L).take 9).toArray⟩ : ByteArray) = encS s) := HLS.out L (by rw [HEN.out]; omega)
  clear hC2 hC
  go_wp2
  go_ret2
  exact ⟨ret_str HE.out, HB2.out⟩
theorem ham_enc_yes (s : ByteArray) (w : World) (h : s.size = 8) (hT : HamTab w) : Calls Tryz.prog 114 #[.string s] w (EncPost s w) := ham_enc_at s w h hT (cell_lt (hT 0 (by decide)))
/- Contracts of package ham: Decode. -/
def RD (l : List UInt8) (p : Nat) (o : Bool) : Nat → Value → World → Prop
 | 0, v, _ => v = .agg (ca l)
 | 1, v, _ => v = .int .u8 p
 | 2, v, _ => v = .agg (ca l)
 | 3, v, _ => v = .bool o
 | 4, v, _ => v = .int .u8 p
 | _, v, _ => v = .bool o
def CD (w0 : World) (l : List UInt8) (w : World) : Prop := ChunkAt w w0.heap.size l ∧ HamTab w ∧ Below w0.heap.size w0 w
def HamT_ (_ _ : World) : Prop := True
theorem RD.mono {l : List UInt8} {p : Nat} {o : Bool} : ∀ (i : Nat) (v : Value) (w w' : World), RD l p o i v w → HamT_ w w' → RD l p o i v w' := by
 intro i v w w' h _
 unfold RD at *
 split at h <;> exact h
def BaseD (s : ByteArray) (B : Nat) (a : Act) : Prop := ∃ u6 u7 u14 u15 u16 u17 : Value, a = ⟨#[.string s, undef, .string ⟨#[]⟩, .int .i64 0, .int .i64 0, .pointer (some ⟨B, 0, none⟩), u6, u7, .string s, .int .i64 9, .bool false, .slice (some ⟨B, 0, none⟩) 9 9, .string s, .int .i64 9, u14, u15, u16, u17, undef, undef, undef, undef, undef, undef, undef, undef, undef, undef, undef, undef, undef, undef, undef, undef, undef, undef, undef, undef, undef], []⟩
theorem BaseD.size {s : ByteArray} {B : Nat} {a : Act} (h : BaseD s B a) : a.tmps.size = 39 := by
 obtain ⟨u6, u7, u14, u15, u16, u17, rfl⟩ := h
 rfl
theorem BaseD.put {s : ByteArray} {B : Nat} {a : Act} {v : Value} (h : BaseD s B a) : BaseD s B (a.put (some 14) v) ∧ BaseD s B (a.put (some 15) v) ∧ BaseD s B (a.put (some 16) v) ∧ BaseD s B (a.put (some 17) v) ∧ BaseD s B (a.put (some 6) v) ∧ BaseD s B (a.put (some 7) v) := by
 obtain ⟨u6, u7, u14, u15, u16, u17, rfl⟩ := h
 exact ⟨⟨u6, u7, v, u15, u16, u17, rfl⟩, ⟨u6, u7, u14, v, u16, u17, rfl⟩, ⟨u6, u7, u14, u15, v, u17, rfl⟩, ⟨u6, u7, u14, u15, u16, v, rfl⟩, ⟨v, u7, u14, u15, u16, u17, rfl⟩, ⟨u6, v, u14, u15, u16, u17, rfl⟩⟩
theorem CD.call {w0 w w' : World} {l : List UInt8} (h : CD w0 l w) (hg : 0 < w0.heap.size) (hb : Below w.heap.size w w') : CD w0 l w' :=
 ⟨h.1.after hb, h.2.1.below hb (by have := h.2.2.size; omega), h.2.2.trans (hb.mono h.2.2.size)⟩
/- Contracts of package crc: More, Sum, Seal, Whole. The table of half bytes lies in a package variable: its cells are a premise. -/
def CrcTab (w : World) : Prop := ∀ i, i < 16 → w.cell? ⟨2, i, none⟩ = some (.int .u32 ((half i : Nat) : Int))
theorem CrcTab.below {w w' : World} {B : Nat} (h : CrcTab w) (hb : Below B w w') (hB : 2 < B) : CrcTab w' := by
 intro i hi
 rw [hb.cell (p := ⟨2, i, none⟩) hB]; exact h i hi
theorem tab_half : ∀ i, i < 16 → ([0, 498536548, 997073096, 651767980, 1994146192, 1802195444, 1303535960, 1342533948, 3988292384, 4027552580, 3604390888, 3412177804, 2607071920, 2262029012, 2685067896, 3183342108] : List Int).getD i 0 = ((half i : Nat) : Int) := by decide +kernel
theorem crcTab_of {w : World} (h : ∀ i, i < 16 → w.cell? ⟨2, i, none⟩ = some (.int .u32 (([0, 498536548, 997073096, 651767980, 1994146192, 1802195444, 1303535960, 1342533948, 3988292384, 4027552580, 3604390888, 3412177804, 2607071920, 2262029012, 2685067896, 3183342108] : List Int).getD i 0))) : CrcTab w := by
 intro i hi
 rw [h i hi, tab_half i hi]
def moreTo (st : Nat) (s : ByteArray) (k : Nat) : Nat := more st ((bs s).take k)
theorem moreTo_zero (st : Nat) (s : ByteArray) : moreTo st s 0 = st := by unfold moreTo; rw [List.take_zero, more_nil]
theorem moreTo_all (st : Nat) (s : ByteArray) : moreTo st s s.size = more st (bs s) := by
 unfold moreTo; rw [List.take_of_length_le (by rw [bs_length]; omega)]
theorem moreTo_lt (st : Nat) (s : ByteArray) (k : Nat) (h : st < 2 ^ 32) : moreTo st s k < 2 ^ 32 := more_lt _ _ h
theorem moreTo_succ (st : Nat) (s : ByteArray) (k : Nat) (h : k < s.size) : moreTo st s (k + 1) = sN 4 (sN 4 (moreTo st s k ^^^ s[k].toNat)) := by
 unfold moreTo
 rw [List.take_succ_eq_append_getElem (by rw [bs_length]; exact h), more_snoc, ← sN_add]
 rfl
theorem xor_u32 (a b : Nat) (ha : a < 4294967296) (hb : b < 4294967296) : bits .xor .u32 (a : Int) (b : Int) = ((a ^^^ b : Nat) : Int) := by
 have hx : a ^^^ b < 2 ^ 32 := Nat.xor_lt_two_pow (by omega) (by omega)
 have h1 : (BitVec.ofInt 32 (a : Int)).toNat = a := by
  rw [BitVec.ofInt_natCast, BitVec.toNat_ofNat]; exact Nat.mod_eq_of_lt (by omega)
 have h2 : (BitVec.ofInt 32 (b : Int)).toNat = b := by
  rw [BitVec.ofInt_natCast, BitVec.toNat_ofNat]; exact Nat.mod_eq_of_lt (by omega)
 show IntKind.u32.wrap ((BitVec.ofInt 32 (a : Int) ^^^ BitVec.ofInt 32 (b : Int)).toNat : Int) = _
 rw [BitVec.toNat_xor, h1, h2, IntKind.wrap_u32]
 omega
theorem half_step (y q : Nat) (hy : y < 4294967296) (hq : y % 16 = q) : bits .xor .u32 ((y : Int) / 16) ((half q : Nat) : Int) = ((sN 4 y : Nat) : Int) := by
 subst hq
 have h := xor_u32 (y / 16) (half (y % 16)) (by omega) (sN_lt 4 _ (by omega))
 rw [sN_half, ← h]; rfl
theorem half_any (y : Nat) (w : World) (hy : y < 4294967296) (hT : CrcTab w) :
  Calls Tryz.prog 170 #[.int .u32 y] w fun e w' => e = .returned (.int .u32 (sN 4 y : Nat)) ∧ w = w' := by
 obtain ⟨q, hq⟩ : ∃ q, y % 16 = q := ⟨_, rfl⟩
 have hq16 : q < 16 := by omega
 have e3 := half_step y q hy hq
 have hcell := hT q hq16
 obtain ⟨u, hu⟩ : ∃ u, half q = u := ⟨_, rfl⟩
 rw [hu] at e3 hcell
 have hq2 : (y : Int) % 16 = (q : Int) := by omega
 have HE := Lib.hid e3
 clear hu hq hT e3
 go_enter Tryz.func170, Tryz.ntmps170
 go_wp2
 go_ret
 exact ⟨ret_int HE.out, rfl⟩
theorem more_any (st : Nat) (s : ByteArray) (w : World) (hs : st < 4294967296) (hm : s.size ≤ 100000) (hT : CrcTab w) :
  Calls Tryz.prog 168 #[.int .u32 st, .string s] w fun e w' => e = .returned (.int .u32 (more st (bs s) : Nat)) ∧ w = w' := by
 have HT := Lib.hid hT
 have HA := Lib.hid (moreTo_all st s)
 have HL := Lib.hid (fun k => moreTo_lt st s k hs)
 clear hT
 go_enter Tryz.func168, Tryz.ntmps168
 go_wp2
 go_loop [0, 8] (fun x i => ∃ k : Nat, k ≤ s.size ∧ i = .int .i64 k ∧ x = .int .u32 (moreTo st s k : Nat)) (fun _ i => s.size - (intOf i).toNat)
 case atStart => exact ⟨0, Nat.zero_le _, rfl, by rw [moreTo_zero]⟩
 case round =>
  obtain ⟨k, hk, rfl, rfl⟩ := hrel
  by_cases hlt : k < s.size
  ·have HS := Lib.hid (moreTo_succ st s k hlt)
   obtain ⟨x, hx⟩ : ∃ x, moreTo st s k = x := ⟨_, rfl⟩
   have hx32 : x < 4294967296 := by rw [← hx]; exact HL.out k
   rw [hx] at HS ⊢
   clear hx
   obtain ⟨c, hc⟩ : ∃ c : Nat, s[k].toNat = c := ⟨_, rfl⟩
   have hc2 : c ≤ 255 := by have : s[k].toNat < 256 := s[k].toNat_lt; omega
   rw [hc] at HS
   obtain ⟨y, hy⟩ : ∃ y, x ^^^ c = y := ⟨_, rfl⟩
   have hy32 : y < 4294967296 := by rw [← hy]; exact Nat.xor_lt_two_pow (n := 32) hx32 (by omega)
   have e1 := xor_u32 x c hx32 (by omega)
   rw [hy] at e1 HS
   clear hy hx32
   go_wp2_with fail
   refine (half_any y _ hy32 HT.out).mono ?_
   rintro e w' ⟨rfl, rfl⟩
   obtain ⟨z, hz⟩ : ∃ z, sN 4 y = z := ⟨_, rfl⟩
   have hz32 : z < 4294967296 := by rw [← hz]; exact sN_lt 4 y hy32
   rw [hz] at HS ⊢
   clear hz
   go_wp2_with fail
   refine (half_any z _ hz32 HT.out).mono ?_
   rintro e w' ⟨rfl, rfl⟩
   rw [← HS.out]
   go_wp2_with fail
   go_round
   case rel => exact ⟨k + 1, by omega, by go_num, rfl⟩
   case measure => simp [intOf]; omega
  ·obtain rfl : k = s.size := by omega
   go_wp2
   go_ret
   exact ⟨ret_int (by rw [HA.out]), rfl⟩
theorem sum_xor_right (l : List UInt8) : bits .xor .u32 ((more ones32 l : Nat) : Int) 4294967295 = ((sumN l : Nat) : Int) := by
 rw [show (4294967295 : Int) = ((ones32 : Nat) : Int) from rfl, xor_u32 _ _ (more_lt ones32 l (by decide)) (by decide)]; rfl
theorem sum_any (s : ByteArray) (w : World) (hm : s.size ≤ 100000) (hT : CrcTab w) :
  Calls Tryz.prog 163 #[.string s] w fun e w' => e = .returned (.int .u32 (sumN (bs s) : Nat)) ∧ w = w' := by
 have HT := Lib.hid hT
 have HS := Lib.hid (sum_xor_right (bs s))
 clear hT
 go_enter Tryz.func163, Tryz.ntmps163
 go_wp2_with fail
 refine (more_any 4294967295 s _ (by decide) hm HT.out).mono ?_
 rintro e w' ⟨rfl, rfl⟩
 rw [show more 4294967295 (bs s) = more ones32 (bs s) from rfl]
 go_wp2_with fail
 go_ret
 exact ⟨ret_int (by rw [← HS.out]), rfl⟩
theorem conv4 (c0 c1 c2 c3 : Int) (W : World) :
  Sem.run Tryz.prog (convert 112 9 (.slice (some ⟨W.heap.size, 0, none⟩) 4 4)) (W.alloc (.cells #[.int .u8 c0, .int .u8 c1, .int .u8 c2, .int .u8 c3] 202))
   = .ok (.string (strOfNums [c0, c1, c2, c3])) (W.alloc (.cells #[.int .u8 c0, .int .u8 c1, .int .u8 c2, .int .u8 c3] 202)) := by
 refine run_convert_bytes_arg (P := Tryz.prog) _ 112 5 Tryz.underlying112 Tryz.underlying5 W.heap.size 0 4 4 [c0, c1, c2, c3] rfl ?_ 9 Tryz.underlying9
 intro i hi
 rw [Nat.zero_add, World.cell?_alloc_new]
 rcases i with _ | _ | _ | _ | i
 all_goals first | omega | rfl
theorem four_str (N : Nat) (h : N < 2 ^ 32) : strOfNums [(N : Int) % 256, (N : Int) / 256 % 256, (N : Int) / 65536 % 256, (N : Int) / 16777216] = ⟨(tail4 N).toArray⟩ := by
 apply strOfNums_eq
 have e0 : ((N : Int) % 256).toNat = N % 256 := by omega
 have e1 : ((N : Int) / 256 % 256).toNat = N / 256 % 256 := by omega
 have e2 : ((N : Int) / 65536 % 256).toNat = N / 65536 % 256 := by omega
 have e3 : ((N : Int) / 16777216).toNat = N / 16777216 % 256 := by omega
 simp only [List.map, e0, e1, e2, e3, tail4]
theorem tail_any (s : ByteArray) (w : World) (hm : s.size ≤ 100000) (hT : CrcTab w) :
  Calls Tryz.prog 144 #[.string s] w fun e w' => e = .returned (.string ⟨(tail4 (sumN (bs s))).toArray⟩) ∧ Below w.heap.size w w' := by
 have HT := Lib.hid hT
 have hL := sumN_lt (bs s)
 clear hT
 have hc := fun (c0 c1 c2 c3 : Int) => conv4 c0 c1 c2 c3 w
 go_enter Tryz.func144, Tryz.ntmps144
 go_wp2_with fail
 refine (sum_any s _ hm HT.out).mono ?_
 rintro e w' ⟨rfl, rfl⟩
 obtain ⟨N, hN⟩ : ∃ N, sumN (bs s) = N := ⟨_, rfl⟩
 rw [hN] at hL ⊢
 have estr := four_str N hL
 have HN := Lib.hid hN
 clear hN
 go_wp2_with fail
 go_rounds 5
 go_ret
 exact ⟨by rw [HN.out]; rfl, (Below.refl _ _).alloc (Nat.le_refl _) _⟩
theorem seal_any (s : ByteArray) (w : World) (hm : s.size ≤ 100000) (hT : CrcTab w) :
  Calls Tryz.prog 113 #[.string s] w fun e w' => e = .returned (.string (sealS s)) ∧ Below w.heap.size w w' := by
 have HT := Lib.hid hT
 clear hT
 go_enter Tryz.func113, Tryz.ntmps113
 go_wp2_with fail
 obtain ⟨t, ht, htz⟩ := tail_str (sumN (bs s))
 refine (tail_any s _ hm HT.out).mono ?_
 rintro e w1 ⟨rfl, hb1⟩
 have HS : Hid (s ++ t = sealS s) := by rw [← ht]; exact seal_cat s
 have HB1 := Lib.hid hb1
 rw [ht]
 clear hb1 ht
 go_wp2_with fail
 go_ret
 exact ⟨by rw [← HS.out]; rfl, HB1.out⟩
/- The contract of crc's Whole. -/
theorem CrcTab.drew {w : World} (h : CrcTab w) : CrcTab w.drew := h
/- Both package tables of layer 5's laws. -/
def Tabs (w : World) : Prop := HamTab w ∧ CrcTab w
theorem Tabs.after {w w' : World} (h : Tabs w) (hb : Below w.heap.size w w') : Tabs w' :=
 ⟨h.1.below hb (cell_lt (h.1 0 (by decide))), h.2.below hb (cell_lt (h.2 0 (by decide)))⟩
/- Contracts of package bits, as far as later layers lean on them: Put of a number that fits, Get. -/
theorem conv8 (c0 c1 c2 c3 c4 c5 c6 c7 : Int) (W : World) (n : Nat) (hn : n ≤ 8) :
  Sem.run Tryz.prog (convert 112 9 (.slice (some ⟨W.heap.size, 0, none⟩) n 8)) (W.alloc (.cells #[.int .u8 c0, .int .u8 c1, .int .u8 c2, .int .u8 c3, .int .u8 c4, .int .u8 c5, .int .u8 c6, .int .u8 c7] 205))
   = .ok (.string (strOfNums ([c0, c1, c2, c3, c4, c5, c6, c7].take n))) (W.alloc (.cells #[.int .u8 c0, .int .u8 c1, .int .u8 c2, .int .u8 c3, .int .u8 c4, .int .u8 c5, .int .u8 c6, .int .u8 c7] 205)) := by
 refine run_convert_bytes_arg (P := Tryz.prog) _ 112 5 Tryz.underlying112 Tryz.underlying5 W.heap.size 0 n 8 ([c0, c1, c2, c3, c4, c5, c6, c7].take n) (by simp; omega) ?_ 9 Tryz.underlying9
 intro i hi
 rw [Nat.zero_add, World.cell?_alloc_new]
 have h8 : i < 8 := by omega
 rcases i with _ | _ | _ | _ | _ | _ | _ | _ | i
 all_goals first | omega | simp [List.getD, hi]
theorem str_1 (v : Int) (v0 : 0 ≤ v) (v1 : v < 256) : strOfNums [v] = leS v 1 := by
 have l : v % 256 = v := by omega
 unfold strOfNums leS
 simp only [le, List.map, l]
theorem str_2 (v : Int) (v0 : 0 ≤ v) (v1 : v < 65536) : strOfNums [v % 256, v / 256] = leS v 2 := by
 have l : v / 256 % 256 = v / 256 := by omega
 unfold strOfNums leS
 simp only [le, List.map, l]
theorem str_3 (v : Int) (v0 : 0 ≤ v) (v1 : v < 16777216) : strOfNums [v % 256, v / 256 % 256, v / 65536] = leS v 3 := by
 have e2 : v / 256 / 256 = v / 65536 := by omega
 have l : v / 65536 % 256 = v / 65536 := by omega
 unfold strOfNums leS
 simp only [le, List.map, e2, l]
theorem str_4 (v : Int) (v0 : 0 ≤ v) (v1 : v < 4294967296) : strOfNums [v % 256, v / 256 % 256, v / 65536 % 256, v / 16777216] = leS v 4 := by
 have e2 : v / 256 / 256 = v / 65536 := by omega
 have e3 : v / 65536 / 256 = v / 16777216 := by omega
 have l : v / 16777216 % 256 = v / 16777216 := by omega
 unfold strOfNums leS
 simp only [le, List.map, e2, e3, l]
theorem str_5 (v : Int) (v0 : 0 ≤ v) (v1 : v < 1099511627776) : strOfNums [v % 256, v / 256 % 256, v / 65536 % 256, v / 16777216 % 256, v / 4294967296] = leS v 5 := by
 have e2 : v / 256 / 256 = v / 65536 := by omega
 have e3 : v / 65536 / 256 = v / 16777216 := by omega
 have e4 : v / 16777216 / 256 = v / 4294967296 := by omega
 have l : v / 4294967296 % 256 = v / 4294967296 := by omega
 unfold strOfNums leS
 simp only [le, List.map, e2, e3, e4, l]
theorem str_6 (v : Int) (v0 : 0 ≤ v) (v1 : v < 281474976710656) : strOfNums [v % 256, v / 256 % 256, v / 65536 % 256, v / 16777216 % 256, v / 4294967296 % 256, v / 1099511627776] = leS v 6 := by
 have e2 : v / 256 / 256 = v / 65536 := by omega
 have e3 : v / 65536 / 256 = v / 16777216 := by omega
 have e4 : v / 16777216 / 256 = v / 4294967296 := by omega
 have e5 : v / 4294967296 / 256 = v / 1099511627776 := by omega
 have l : v / 1099511627776 % 256 = v / 1099511627776 := by omega
 unfold strOfNums leS
 simp only [le, List.map, e2, e3, e4, e5, l]
theorem str_7 (v : Int) (v0 : 0 ≤ v) (v1 : v < 72057594037927936) : strOfNums [v % 256, v / 256 % 256, v / 65536 % 256, v / 16777216 % 256, v / 4294967296 % 256, v / 1099511627776 % 256, v / 281474976710656] = leS v 7 := by
 have e2 : v / 256 / 256 = v / 65536 := by omega
 have e3 : v / 65536 / 256 = v / 16777216 := by omega
 have e4 : v / 16777216 / 256 = v / 4294967296 := by omega
 have e5 : v / 4294967296 / 256 = v / 1099511627776 := by omega
 have e6 : v / 1099511627776 / 256 = v / 281474976710656 := by omega
 have l : v / 281474976710656 % 256 = v / 281474976710656 := by omega
 unfold strOfNums leS
 simp only [le, List.map, e2, e3, e4, e5, e6, l]
theorem str_8 (v : Int) (v0 : 0 ≤ v) (v1 : v < 18446744073709551616) : strOfNums [v % 256, v / 256 % 256, v / 65536 % 256, v / 16777216 % 256, v / 4294967296 % 256, v / 1099511627776 % 256, v / 281474976710656 % 256, v / 72057594037927936] = leS v 8 := by
 have e2 : v / 256 / 256 = v / 65536 := by omega
 have e3 : v / 65536 / 256 = v / 16777216 := by omega
 have e4 : v / 16777216 / 256 = v / 4294967296 := by omega
 have e5 : v / 4294967296 / 256 = v / 1099511627776 := by omega
 have e6 : v / 1099511627776 / 256 = v / 281474976710656 := by omega
 have e7 : v / 281474976710656 / 256 = v / 72057594037927936 := by omega
 have l : v / 72057594037927936 % 256 = v / 72057594037927936 := by omega
 unfold strOfNums leS
 simp only [le, List.map, e2, e3, e4, e5, e6, e7, l]
theorem put_1 (v : Int) (w : World) (v0 : 0 ≤ v) (v1 : v < 256) :
  Calls Tryz.prog 160 #[.int .u64 v, .int .i64 1] w fun e w' => e = .returned (.tuple #[.string (leS v 1), .int .i64 0]) ∧ Below w.heap.size w w' := by
 have hc := fun (c0 c1 c2 c3 c4 c5 c6 c7 : Int) => conv8 c0 c1 c2 c3 c4 c5 c6 c7 w 1 (by decide)
 go_enter Tryz.func160, Tryz.ntmps160
 go_wp2
 go_rounds 2
 go_ret2
 exact ⟨ret_str (str_1 v v0 v1), (Below.refl _ _).alloc (Nat.le_refl _) _⟩
theorem put_2 (v : Int) (w : World) (v0 : 0 ≤ v) (v1 : v < 65536) :
  Calls Tryz.prog 160 #[.int .u64 v, .int .i64 2] w fun e w' => e = .returned (.tuple #[.string (leS v 2), .int .i64 0]) ∧ Below w.heap.size w w' := by
 have hc := fun (c0 c1 c2 c3 c4 c5 c6 c7 : Int) => conv8 c0 c1 c2 c3 c4 c5 c6 c7 w 2 (by decide)
 go_enter Tryz.func160, Tryz.ntmps160
 go_wp2
 go_rounds 3
 go_ret2
 exact ⟨ret_str (str_2 v v0 v1), (Below.refl _ _).alloc (Nat.le_refl _) _⟩
theorem put_3 (v : Int) (w : World) (v0 : 0 ≤ v) (v1 : v < 16777216) :
  Calls Tryz.prog 160 #[.int .u64 v, .int .i64 3] w fun e w' => e = .returned (.tuple #[.string (leS v 3), .int .i64 0]) ∧ Below w.heap.size w w' := by
 have hc := fun (c0 c1 c2 c3 c4 c5 c6 c7 : Int) => conv8 c0 c1 c2 c3 c4 c5 c6 c7 w 3 (by decide)
 go_enter Tryz.func160, Tryz.ntmps160
 go_wp2
 go_rounds 4
 go_ret2
 exact ⟨ret_str (str_3 v v0 v1), (Below.refl _ _).alloc (Nat.le_refl _) _⟩
theorem put_4 (v : Int) (w : World) (v0 : 0 ≤ v) (v1 : v < 4294967296) :
  Calls Tryz.prog 160 #[.int .u64 v, .int .i64 4] w fun e w' => e = .returned (.tuple #[.string (leS v 4), .int .i64 0]) ∧ Below w.heap.size w w' := by
 have hc := fun (c0 c1 c2 c3 c4 c5 c6 c7 : Int) => conv8 c0 c1 c2 c3 c4 c5 c6 c7 w 4 (by decide)
 go_enter Tryz.func160, Tryz.ntmps160
 go_wp2
 go_rounds 5
 go_ret2
 exact ⟨ret_str (str_4 v v0 v1), (Below.refl _ _).alloc (Nat.le_refl _) _⟩
theorem put_5 (v : Int) (w : World) (v0 : 0 ≤ v) (v1 : v < 1099511627776) :
  Calls Tryz.prog 160 #[.int .u64 v, .int .i64 5] w fun e w' => e = .returned (.tuple #[.string (leS v 5), .int .i64 0]) ∧ Below w.heap.size w w' := by
 have hc := fun (c0 c1 c2 c3 c4 c5 c6 c7 : Int) => conv8 c0 c1 c2 c3 c4 c5 c6 c7 w 5 (by decide)
 go_enter Tryz.func160, Tryz.ntmps160
 go_wp2
 go_rounds 6
 go_ret2
 exact ⟨ret_str (str_5 v v0 v1), (Below.refl _ _).alloc (Nat.le_refl _) _⟩
theorem put_6 (v : Int) (w : World) (v0 : 0 ≤ v) (v1 : v < 281474976710656) :
  Calls Tryz.prog 160 #[.int .u64 v, .int .i64 6] w fun e w' => e = .returned (.tuple #[.string (leS v 6), .int .i64 0]) ∧ Below w.heap.size w w' := by
 have hc := fun (c0 c1 c2 c3 c4 c5 c6 c7 : Int) => conv8 c0 c1 c2 c3 c4 c5 c6 c7 w 6 (by decide)
 go_enter Tryz.func160, Tryz.ntmps160
 go_wp2
 go_rounds 7
 go_ret2
 exact ⟨ret_str (str_6 v v0 v1), (Below.refl _ _).alloc (Nat.le_refl _) _⟩
theorem put_7 (v : Int) (w : World) (v0 : 0 ≤ v) (v1 : v < 72057594037927936) :
  Calls Tryz.prog 160 #[.int .u64 v, .int .i64 7] w fun e w' => e = .returned (.tuple #[.string (leS v 7), .int .i64 0]) ∧ Below w.heap.size w w' := by
 have hc := fun (c0 c1 c2 c3 c4 c5 c6 c7 : Int) => conv8 c0 c1 c2 c3 c4 c5 c6 c7 w 7 (by decide)
 go_enter Tryz.func160, Tryz.ntmps160
 go_wp2
 go_rounds 8
 go_ret2
 exact ⟨ret_str (str_7 v v0 v1), (Below.refl _ _).alloc (Nat.le_refl _) _⟩
theorem put_8 (v : Int) (w : World) (v0 : 0 ≤ v) (v1 : v < 18446744073709551616) :
  Calls Tryz.prog 160 #[.int .u64 v, .int .i64 8] w fun e w' => e = .returned (.tuple #[.string (leS v 8), .int .i64 0]) ∧ Below w.heap.size w w' := by
 have hc := fun (c0 c1 c2 c3 c4 c5 c6 c7 : Int) => conv8 c0 c1 c2 c3 c4 c5 c6 c7 w 8 (by decide)
 go_enter Tryz.func160, Tryz.ntmps160
 go_wp2
 go_rounds 9
 go_ret2
 exact ⟨ret_str (str_8 v v0 v1), (Below.refl _ _).alloc (Nat.le_refl _) _⟩
theorem put_fit (v : Int) (n : Nat) (w : World) (h1 : 1 ≤ n) (h2 : n ≤ 8) (v0 : 0 ≤ v) (hv : v < p2 (8 * n)) :
  Calls Tryz.prog 160 #[.int .u64 v, .int .i64 n] w fun e w' => e = .returned (.tuple #[.string (leS v n), .int .i64 0]) ∧ Below w.heap.size w w' := by
 obtain rfl | rfl | rfl | rfl | rfl | rfl | rfl | rfl : n = 1 ∨ n = 2 ∨ n = 3 ∨ n = 4 ∨ n = 5 ∨ n = 6 ∨ n = 7 ∨ n = 8 := by omega
 ·exact put_1 v w v0 (by rw [show p2 (8 * 1) = 256 by decide] at hv; exact hv)
 ·exact put_2 v w v0 (by rw [show p2 (8 * 2) = 65536 by decide] at hv; exact hv)
 ·exact put_3 v w v0 (by rw [show p2 (8 * 3) = 16777216 by decide] at hv; exact hv)
 ·exact put_4 v w v0 (by rw [show p2 (8 * 4) = 4294967296 by decide] at hv; exact hv)
 ·exact put_5 v w v0 (by rw [show p2 (8 * 5) = 1099511627776 by decide] at hv; exact hv)
 ·exact put_6 v w v0 (by rw [show p2 (8 * 6) = 281474976710656 by decide] at hv; exact hv)
 ·exact put_7 v w v0 (by rw [show p2 (8 * 7) = 72057594037927936 by decide] at hv; exact hv)
 ·exact put_8 v w v0 (by rw [show p2 (8 * 8) = 18446744073709551616 by decide] at hv; exact hv)
/- Package tag, walked: May, get, put; what put leaves in the block that it fills. -/
def tca (l : List UInt8) : Array Value := (Lib.byteCells l).toArray
theorem tca_size (l : List UInt8) : (tca l).size = l.length := by simp [tca, Lib.byteCells]
def layL (l : List UInt8) (o : Nat) (m : List UInt8) : List UInt8 := l.take o ++ m ++ l.drop (o + m.length)
theorem tca_lay (l : List UInt8) (o : Nat) (m : List UInt8) : ((tca l).toList.take o ++ Lib.byteCells m ++ (tca l).toList.drop (o + m.length)).toArray = tca (layL l o m) := by
 simp [tca, layL, Lib.byteCells, List.map_append, List.map_take, List.map_drop]
theorem copy_lay (g o n cap : Nat) (l : List UInt8) (t : TypeId) (w : World) (s : ByteArray) (ty : TypeId) (h : Blk w g (tca l) t) (hs : s.size ≤ n) (hf : o + s.size ≤ l.length) :
  Sem.run Tryz.prog (Builtin.copy_ #[112, 9] ty #[.slice (some ⟨g, o, none⟩) n cap, .string s]) w = .ok (goInt s.size) (w.setRow g (tca (layL l o (bs s)))) := by
 obtain ⟨i0, hi, hz0, hz1, hz2⟩ := info_parts Tryz.infoU8
 have e := Lib.run_copy_row_string (P := Tryz.prog) w 112 9 ty 5 g o n cap s (tca l) t Tryz.underlying112 (by rw [hi]; simp [hz1]) h hs (by rw [tca_size]; exact hf)
 have hl := tca_lay l o (bs s)
 rw [bs_length] at hl
 rw [e]
 unfold bs at hl ⊢
 rw [hl]
theorem tag_kind (k : Int) (w : World) : Calls Tryz.prog 158 #[.int .i64 k] w fun r w' => r = .returned (.bool (decide (1 ≤ k ∧ k ≤ 4))) ∧ w = w' := by
 go_enter Tryz.func158, Tryz.ntmps158
 go_wp2
 all_goals go_ret
 all_goals exact ⟨ret_bool (by rw [Bool.eq_iff_iff]; simp only [beq_iff_eq, beq_eq_false_iff_ne, ne_eq, decide_eq_true_eq, true_iff, false_iff, Bool.false_eq_true] at *; omega), rfl⟩
theorem tag_upto (v m : Int) (w : World) : Calls Tryz.prog 159 #[.int .i64 v, .int .i64 m] w fun r w' => r = .returned (.bool (decide (0 ≤ v ∧ v ≤ m))) ∧ w = w' := by
 go_enter Tryz.func159, Tryz.ntmps159
 go_wp2
 all_goals go_ret
 all_goals exact ⟨ret_bool (by rw [Bool.eq_iff_iff]; simp; try omega), rfl⟩
def PutT (g : Nat) (cs : Array Value) (w : World) (r : Ending) (w' : World) : Prop := r = .returned (.tuple #[]) ∧ ∃ w1, Below w.heap.size w w1 ∧ w' = w1.setRow g cs
theorem tag_put (g o n cap : Nat) (v : Int) (l : List UInt8) (t : TypeId) (w : World) (h : Blk w g (tca l) t) (h1 : 1 ≤ n) (h2 : n ≤ 8) (v0 : 0 ≤ v) (v1 : v ≤ 9223372036854775807) (v2 : v < p2 (8 * n)) (hf : o + n ≤ l.length) :
  Calls Tryz.prog 140 #[.slice (some ⟨g, o, none⟩) n cap, .int .i64 v] w (PutT g (tca (layL l o (bs (leS v n)))) w) := by
 have hw : IntKind.u64.wrap v = v := by rw [IntKind.wrap_u64]; omega
 have HV := Lib.hid v2
 have HB := Lib.hid h
 clear v2 h
 go_enter Tryz.func140, Tryz.ntmps140
 go_wp2_with fail
 refine (put_fit v n _ h1 h2 v0 HV.out).mono ?_
 rintro r w1 ⟨rfl, hb1⟩
 have hz := leS_size v n
 have hcp := fun ty => copy_lay g o n cap l t w1 (leS v n) ty (HB.out.after hb1) (by omega) (by omega)
 have HB1 := Lib.hid hb1
 clear hb1 HB
 obtain ⟨S, hS⟩ : ∃ S, leS v n = S := ⟨_, rfl⟩
 rw [hS] at hcp hz ⊢
 have HS := Lib.hid hS
 clear hS
 go_wp2_with fail
 go_end0
 exact ⟨rfl, _, HB1.out, by rw [HS.out]⟩
theorem may_split (k l q e : Int) : mayB k l q e = (decide (1 ≤ k ∧ k ≤ 4) && decide (0 ≤ l ∧ l ≤ 4096) && decide (0 ≤ q ∧ q ≤ 281474976710655) && decide (0 ≤ e ∧ e ≤ 4294967295)) := by
 rw [Bool.eq_iff_iff, mayB_iff]
 unfold MayT
 simp [and_assoc]
theorem tag_may (k l q e : Int) (w : World) : Calls Tryz.prog 139 #[.agg (ta k l q e)] w (MayPost k l q e w) := by
 unfold MayPost
 rw [may_split]
 obtain ⟨b1, e1⟩ : ∃ b, decide (1 ≤ k ∧ k ≤ 4) = b := ⟨_, rfl⟩
 obtain ⟨b2, e2⟩ : ∃ b, decide (0 ≤ l ∧ l ≤ 4096) = b := ⟨_, rfl⟩
 obtain ⟨b3, e3⟩ : ∃ b, decide (0 ≤ q ∧ q ≤ 281474976710655) = b := ⟨_, rfl⟩
 obtain ⟨b4, e4⟩ : ∃ b, decide (0 ≤ e ∧ e ≤ 4294967295) = b := ⟨_, rfl⟩
 rw [e1, e2, e3, e4]
 have H1 := Lib.hid e1; have H2 := Lib.hid e2; have H3 := Lib.hid e3; have H4 := Lib.hid e4
 clear e1 e2 e3 e4
 unfold ta
 go_enter Tryz.func139, Tryz.ntmps139
 go_wp2_with fail
 refine (tag_kind k _).mono ?_
 rintro r w1 ⟨rfl, rfl⟩
 rw [H1.out]
 cases b1
 ·go_wp2_with fail
  go_ret
  exact ⟨rfl, (Below.refl _ _).alloc (Nat.le_refl _) _⟩
 go_wp2_with fail
 refine (tag_upto l 4096 _).mono ?_
 rintro r w1 ⟨rfl, rfl⟩
 rw [H2.out]
 cases b2
 ·go_wp2_with fail
  go_ret
  exact ⟨rfl, (Below.refl _ _).alloc (Nat.le_refl _) _⟩
 go_wp2_with fail
 refine (tag_upto q 281474976710655 _).mono ?_
 rintro r w1 ⟨rfl, rfl⟩
 rw [H3.out]
 cases b3
 ·go_wp2_with fail
  go_ret
  exact ⟨rfl, (Below.refl _ _).alloc (Nat.le_refl _) _⟩
 go_wp2_with fail
 refine (tag_upto e 4294967295 _).mono ?_
 rintro r w1 ⟨rfl, rfl⟩
 rw [H4.out]
 go_wp2_with fail
 go_ret
 exact ⟨by cases b4 <;> rfl, (Below.refl _ _).alloc (Nat.le_refl _) _⟩
/- Package tag, walked: Encode. -/
def EncW (k l q e : Int) (g : Nat) (L : List UInt8) (w0 w : World) : Prop := Blk w g (tca L) 173 ∧ KT k l q e w0 w ∧ w0.heap.size < g
theorem EncW.drew {k l q e : Int} {g : Nat} {L : List UInt8} {w0 w : World} (h : EncW k l q e g L w0 w) : EncW k l q e g L w0 w.drew := ⟨h.1.drew, h.2.1.drew, h.2.2⟩
theorem KT.put {k l q e : Int} {w0 w : World} (h : KT k l q e w0 w) {g : Nat} (hg : w0.heap.size < g) (cs : Array Value) : KT k l q e w0 (w.setRow g cs) := by
 have hc : ∀ i, (w.setRow g cs).cell? ⟨w0.heap.size, i, none⟩ = w.cell? ⟨w0.heap.size, i, none⟩ := by
  intro i
  simp only [World.cell?, World.setRow, Array.getElem?_modify]
  rw [if_neg (by omega)]
 exact ⟨(hc 0).trans h.1, (hc 1).trans h.2.1, (hc 2).trans h.2.2.1, (hc 3).trans h.2.2.2.1, below_put (by omega) _ h.2.2.2.2⟩
theorem EncW.put {k l q e : Int} {g : Nat} {L L' : List UInt8} {w0 w w1 : World} (h : EncW k l q e g L w0 w) (hb : Below w.heap.size w w1) : EncW k l q e g L' w0 (w1.setRow g (tca L')) :=
 ⟨(h.1.after hb).put _, (h.2.1.call hb).put h.2.2 _, h.2.2⟩
theorem conv_tca {w : World} {g : Nat} {L : List UInt8} {t : TypeId} (h : Blk w g (tca L) t) (n cap : Nat) (hn : L.length = n) :
  Sem.run Tryz.prog (convert 112 9 (.slice (some ⟨g, 0, none⟩) n cap)) w = .ok (.string ⟨L.toArray⟩) w := by
 have hr := run_convert_bytes_arg (P := Tryz.prog) w 112 5 Tryz.underlying112 Tryz.underlying5 g 0 n cap (L.map fun c => (c.toNat : Int)) (by simp; omega) (by
  intro i hi
  have h3 : i < L.length := by omega
  rw [Nat.zero_add, h.cell i]
  simp [List.getD, h3, tca, Lib.byteCells]) 9 Tryz.underlying9
 rw [hr]
 congr 2
 apply strOfNums_eq
 rw [List.map_map]
 have e : ((fun n : Int => UInt8.ofNat n.toNat) ∘ fun b : UInt8 => (b.toNat : Int)) = id := by funext b; simp
 rw [e, List.map_id]
def encL0 : List UInt8 := [27, 0, 0, 0, 0, 0, 0, 0, 0, 0, 0, 0, 0, 0, 0, 0]
theorem enc_end (k l q e : Int) (h : MayT k l q e) : (⟨(layL (layL (layL (layL (layL encL0 1 (bs (leS k 1))) 2 (bs (leS l 2))) 4 (bs (leS q 6))) 10 (bs (leS e 4))) 14 (bs ⟨#[0, 0]⟩)).toArray⟩ : ByteArray) = tagS k l q e := by
 have e1 : bs (leS k 1) = [UInt8.ofNat k.toNat] := by
  obtain ⟨h1, h2, _⟩ := h
  have : k % 256 = k := by omega
  show [UInt8.ofNat (k % 256).toNat] = _
  rw [this]
 rw [e1]
 rfl
theorem tag_enc_yes (k l q e : Int) (w : World) (hm : MayT k l q e) : Calls Tryz.prog 110 #[.agg (ta k l q e)] w fun r w' => r = .returned (.tuple #[.string (tagS k l q e), .int .i64 0]) ∧ Below w.heap.size w w' := by
 have HB : Hid (mayB k l q e = true) := (mayB_iff k l q e).2 hm
 have HE := Lib.hid (enc_end k l q e hm)
 obtain ⟨h1, h2, h3, h4, h5, h6, h7, h8⟩ := hm
 have b1 : k < p2 (8 * 1) := by rw [show p2 (8 * 1) = 256 by decide]; omega
 have b2 : l < p2 (8 * 2) := by rw [show p2 (8 * 2) = 65536 by decide]; omega
 have b6 : q < p2 (8 * 6) := by rw [show p2 (8 * 6) = 281474976710656 by decide]; omega
 have b4 : e < p2 (8 * 4) := by rw [show p2 (8 * 4) = 4294967296 by decide]; omega
 have HN := Lib.hid (And.intro b1 (And.intro b2 (And.intro b6 b4)))
 clear b1 b2 b6 b4
 have hK := KT.first k l q e w 110
 go_enter Tryz.func110, Tryz.ntmps110
 go_wp2_with (refine wpList_load_row rfl 110 (.tmp 1) rfl w.heap.size rfl 110 (ta k l q e) (0, 0) _ (Blk.new w (ta k l q e) 110) Tryz.underlying110 rfl size_tag ?_)
 refine (tag_may k l q e _).mono ?_
 rintro r w1 ⟨rfl, hb1⟩
 have hK1 := hK.call hb1
 rw [HB.out]
 clear hK
 go_wp2_with fail
 have hE : EncW k l q e w1.heap.size encL0 w (w1.alloc (.cells (tca encL0) 173)) := ⟨Blk.new _ _ _, hK1.alloc _, cell_lt hK1.1⟩
 change Code.wp _ _ _ _ (w1.alloc (.cells (tca encL0) 173))
 generalize (w1.alloc (.cells (tca encL0) 173)) = w2 at hE ⊢
 generalize w1.heap.size = g at hE ⊢
 clear hb1 hK1
 obtain ⟨c0, c1, c2, c3, _⟩ := hE.2.1
 have HE0 := Lib.hid hE
 clear hE
 go_still_tail 3, (by kernel_rfl)
 change wpList _ _ _ _ _ w2.drew
 clear c0 c1 c2 c3
 go_wp2_with fail
 refine (tag_put g 1 1 15 k encL0 173 _ HE0.out.1.drew (by decide) (by decide) (by omega) (by omega) HN.out.1 (Nat.le_of_ble_eq_true rfl)).mono ?_
 rintro r w2d ⟨rfl, w2e, hb, rfl⟩
 have hE := EncW.put (L' := layL encL0 1 (bs (leS k 1))) HE0.out.drew hb
 generalize w2e.setRow g _ = w3 at hE ⊢
 clear hb HE0
 go_wp2_with fail
 obtain ⟨c0, c1, c2, c3, _⟩ := hE.2.1
 have HE1 := Lib.hid hE
 clear hE
 go_still_tail 3, (by kernel_rfl)
 change wpList _ _ _ _ _ w3.drew
 clear c0 c1 c2 c3
 go_wp2_with fail
 refine (tag_put g 2 2 14 l (layL encL0 1 (bs (leS k 1))) 173 _ HE1.out.1.drew (by decide) (by decide) (by omega) (by omega) HN.out.2.1 (Nat.le_of_ble_eq_true rfl)).mono ?_
 rintro r w3d ⟨rfl, w3e, hb, rfl⟩
 have hE := EncW.put (L' := layL (layL encL0 1 (bs (leS k 1))) 2 (bs (leS l 2))) HE1.out.drew hb
 generalize w3e.setRow g _ = w4 at hE ⊢
 clear hb HE1
 go_wp2_with fail
 obtain ⟨c0, c1, c2, c3, _⟩ := hE.2.1
 have HE2 := Lib.hid hE
 clear hE
 go_still_tail 3, (by kernel_rfl)
 change wpList _ _ _ _ _ w4.drew
 clear c0 c1 c2 c3
 go_wp2_with fail
 refine (tag_put g 4 6 12 q (layL (layL encL0 1 (bs (leS k 1))) 2 (bs (leS l 2))) 173 _ HE2.out.1.drew (by decide) (by decide) (by omega) (by omega) HN.out.2.2.1 (Nat.le_of_ble_eq_true rfl)).mono ?_
 rintro r w4d ⟨rfl, w4e, hb, rfl⟩
 have hE := EncW.put (L' := layL (layL (layL encL0 1 (bs (leS k 1))) 2 (bs (leS l 2))) 4 (bs (leS q 6))) HE2.out.drew hb
 generalize w4e.setRow g _ = w5 at hE ⊢
 clear hb HE2
 go_wp2_with fail
 obtain ⟨c0, c1, c2, c3, _⟩ := hE.2.1
 have HE3 := Lib.hid hE
 clear hE
 go_still_tail 3, (by kernel_rfl)
 change wpList _ _ _ _ _ w5.drew
 clear c0 c1 c2 c3
 go_wp2_with fail
 refine (tag_put g 10 4 6 e (layL (layL (layL encL0 1 (bs (leS k 1))) 2 (bs (leS l 2))) 4 (bs (leS q 6))) 173 _ HE3.out.1.drew (by decide) (by decide) (by omega) (by omega) HN.out.2.2.2 (Nat.le_of_ble_eq_true rfl)).mono ?_
 rintro r w5d ⟨rfl, w5e, hb, rfl⟩
 have hE := EncW.put (L' := layL (layL (layL (layL encL0 1 (bs (leS k 1))) 2 (bs (leS l 2))) 4 (bs (leS q 6))) 10 (bs (leS e 4))) HE3.out.drew hb
 generalize w5e.setRow g _ = w6 at hE ⊢
 clear hb HE3
 have hcp := fun ty => copy_lay g 14 2 2 (layL (layL (layL (layL encL0 1 (bs (leS k 1))) 2 (bs (leS l 2))) 4 (bs (leS q 6))) 10 (bs (leS e 4))) 173 w6 ⟨#[0, 0]⟩ ty hE.1 (by decide) (Nat.le_of_ble_eq_true rfl)
 have hcv := conv_tca (hE.1.put (tca (layL (layL (layL (layL (layL encL0 1 (bs (leS k 1))) 2 (bs (leS l 2))) 4 (bs (leS q 6))) 10 (bs (leS e 4))) 14 (bs ⟨#[0, 0]⟩)))) 16 16 rfl
 have HF := Lib.hid (below_put (Nat.le_of_lt hE.2.2) (tca (layL (layL (layL (layL (layL encL0 1 (bs (leS k 1))) 2 (bs (leS l 2))) 4 (bs (leS q 6))) 10 (bs (leS e 4))) 14 (bs ⟨#[0, 0]⟩))) hE.2.1.2.2.2.2)
 rw [HE.out] at hcv
 clear hE HN HE HB
 go_wp2_with fail
 go_ret2
 exact ⟨rfl, HF.out⟩
theorem tag_enc_no (k l q e : Int) (w : World) (hm : ¬ MayT k l q e) : Calls Tryz.prog 110 #[.agg (ta k l q e)] w fun r w' => r = .returned (.tuple #[.string ByteArray.empty, .int .i64 1]) ∧ Below w.heap.size w w' := by
 have HB : Hid (mayB k l q e = false) := by rw [← Bool.not_eq_true, mayB_iff]; exact hm
 clear hm
 have hK := KT.first k l q e w 110
 go_enter Tryz.func110, Tryz.ntmps110
 go_wp2_with (refine wpList_load_row rfl 110 (.tmp 1) rfl w.heap.size rfl 110 (ta k l q e) (0, 0) _ (Blk.new w (ta k l q e) 110) Tryz.underlying110 rfl size_tag ?_)
 refine (tag_may k l q e _).mono ?_
 rintro r w1 ⟨rfl, hb1⟩
 have HK1 := Lib.hid (hK.call hb1)
 rw [HB.out]
 clear hK hb1
 go_wp2_with fail
 go_ret2
 exact ⟨rfl, HK1.out.2.2.2.2⟩
theorem tag_enc (k l q e : Int) (w : World) : Calls Tryz.prog 110 #[.agg (ta k l q e)] w (EncT k l q e w) := by
 unfold EncT encT encE
 by_cases h : MayT k l q e
 ·rw [if_pos h, if_pos h]; exact tag_enc_yes k l q e w h
 ·rw [if_neg h, if_neg h]; exact tag_enc_no k l q e w h
/- Package tag, walked: Decode. -/
def BaseTD (s : ByteArray) (B : Nat) (a : Act) : Prop := ∃ u : Nat → Value, a = ⟨#[.string s, u 1, .pointer (some ⟨B, 0, none⟩), u 3, u 4, u 5, u 6, u 7, u 8, u 9, u 10, u 11, u 12, u 13, u 14, u 15, u 16, u 17, u 18, u 19, u 20, u 21, u 22, u 23, u 24, u 25, u 26, u 27, u 28, u 29, u 30, u 31, u 32, u 33, u 34, u 35, u 36], []⟩
end Go.Proofs.YtalefbmoebobkaaGreatDoor
/- Package tag: the three contracts (May: TagC0, Encode: TagC2, Decode: TagC3). -/
namespace Go.Proofs.YtalefbmoebobkaaGreatDoor
set_option maxRecDepth 100000
end Go.Proofs.YtalefbmoebobkaaGreatDoor
/- The frames of the two drawn regions of the reference's Decode. -/
namespace Go.Proofs.YtalefbmoebobkaaGreatDoor
set_option maxRecDepth 100000
open Go.RowKit
def BaseFDA (B g : Nat) (o : ByteArray) (f e : Int) (a : Act) : Prop := ∃ u : Nat → Value, a = ⟨#[u 0, u 1, .pointer (some ⟨B, 0, none⟩), .string o, .int .i64 f, u 5, u 6, u 7, u 8, .int .i64 (o.size : Nat), .pointer (some ⟨g, 0, none⟩), .int .i64 e, u 12, u 13, u 14, u 15, u 16, u 17, u 18, u 19, u 20, u 21, u 22, u 23, u 24, u 25, u 26, u 27, u 28, u 29, u 30, u 31, u 32, u 33, u 34, u 35, u 36, u 37, u 38, u 39, u 40, u 41, u 42, u 43, u 44, u 45, u 46, u 47, u 48, u 49, u 50, u 51, u 52, u 53, u 54, u 55, u 56, u 57, u 58, u 59, u 60, u 61, u 62, u 63, u 64, u 65, u 66, u 67, u 68, u 69, u 70, u 71, u 72, u 73, u 74, u 75, u 76, u 77, u 78, u 79, u 80, u 81, u 82, u 83, u 84, u 85, u 86, u 87, u 88, u 89], []⟩
def BaseFDB (B g : Nat) (o : ByteArray) (f e : Int) (a : Act) : Prop := ∃ u : Nat → Value, a = ⟨#[u 0, u 1, .pointer (some ⟨B, 0, none⟩), .string o, .int .i64 f, u 5, u 6, u 7, u 8, .int .i64 (o.size : Nat), .pointer (some ⟨g, 0, none⟩), .int .i64 e, u 12, u 13, u 14, u 15, u 16, u 17, u 18, u 19, u 20, u 21, u 22, u 23, u 24, u 25, u 26, u 27, u 28, u 29, u 30, u 31, u 32, u 33, u 34, u 35, u 36, u 37, u 38, u 39, u 40, u 41, u 42, u 43, u 44, u 45, u 46, u 47, u 48, u 49, u 50, u 51, u 52, u 53, u 54, u 55, u 56, u 57, u 58, u 59, u 60, u 61, u 62, u 63, u 64, u 65, u 66, u 67, u 68, u 69, u 70, u 71, u 72, u 73, u 74, u 75, u 76, u 77, u 78, u 79, u 80, u 81, u 82, u 83, u 84, u 85, u 86, u 87, u 88, u 89], []⟩
def BaseFDC (B g : Nat) (o : ByteArray) (f e : Int) (a : Act) : Prop := ∃ u : Nat → Value, a = ⟨#[u 0, u 1, .pointer (some ⟨B, 0, none⟩), .string o, .int .i64 f, u 5, u 6, u 7, u 8, .int .i64 (o.size : Nat), .pointer (some ⟨g, 0, none⟩), .int .i64 e, u 12, u 13, u 14, u 15, u 16, u 17, u 18, u 19, u 20, u 21, u 22, u 23, u 24, u 25, u 26, u 27, u 28, u 29, u 30, u 31, u 32, u 33, u 34, u 35, u 36, u 37, u 38, u 39, u 40, u 41, u 42, u 43, u 44, u 45, u 46, u 47, u 48, u 49, u 50, u 51, u 52, u 53, u 54, u 55, u 56, u 57, u 58, u 59, u 60, u 61, u 62, u 63, u 64, u 65, u 66, u 67, u 68, u 69, u 70, u 71, u 72, u 73, u 74, u 75, u 76, u 77, u 78, u 79, u 80, u 81, u 82, u 83, u 84, u 85, u 86, u 87, u 88, u 89], []⟩
def BaseFDD (B g : Nat) (o : ByteArray) (f e : Int) (a : Act) : Prop := ∃ u : Nat → Value, a = ⟨#[u 0, u 1, .pointer (some ⟨B, 0, none⟩), .string o, .int .i64 f, u 5, u 6, u 7, u 8, .int .i64 (o.size : Nat), .pointer (some ⟨g, 0, none⟩), .int .i64 e, u 12, u 13, u 14, u 15, u 16, u 17, u 18, u 19, u 20, u 21, u 22, u 23, u 24, u 25, u 26, u 27, u 28, u 29, u 30, u 31, u 32, u 33, u 34, u 35, u 36, u 37, u 38, u 39, u 40, u 41, u 42, u 43, u 44, u 45, u 46, u 47, u 48, u 49, u 50, u 51, u 52, u 53, u 54, u 55, u 56, u 57, u 58, u 59, u 60, u 61, u 62, u 63, u 64, u 65, u 66, u 67, u 68, u 69, u 70, u 71, u 72, u 73, u 74, u 75, u 76, u 77, u 78, u 79, u 80, u 81, u 82, u 83, u 84, u 85, u 86, u 87, u 88, u 89], []⟩
def BaseFP (B g : Nat) (o : ByteArray) (f : Int) (a : Act) : Prop := ∃ u : Nat → Value, a = ⟨#[u 0, u 1, .pointer (some ⟨B, 0, none⟩), .string o, .int .i64 f, u 5, u 6, u 7, u 8, .int .i64 (o.size : Nat), .pointer (some ⟨g, 0, none⟩), u 11, u 12, u 13, u 14, u 15, u 16, u 17, u 18, u 19, u 20, u 21, u 22, u 23, u 24, u 25, u 26, u 27, u 28, u 29, u 30, u 31, u 32, u 33, u 34, u 35, u 36, u 37, u 38, u 39, u 40, u 41, u 42, u 43, u 44, u 45, u 46, u 47, u 48, u 49, u 50, u 51, u 52, u 53, u 54, u 55, u 56, u 57, u 58, u 59, u 60, u 61, u 62, u 63, u 64, u 65, u 66, u 67, u 68, u 69, u 70, u 71, u 72, u 73, u 74, u 75, u 76, u 77, u 78, u 79, u 80, u 81, u 82, u 83, u 84, u 85, u 86, u 87, u 88, u 89], []⟩
/- The reference of layer 5, walked: Decode. -/
abbrev P0 : Array Value := pv 0 0 0 0 0 ByteArray.empty
abbrev P4 : Array Value := pv 4 0 0 0 0 ByteArray.empty
abbrev P1 : Array Value := pv 1 0 0 0 0 ByteArray.empty
/- The reference of layer 5, walked: Decode, whatever it is given. -/
/- A page's bytes, decoded: what is encoded is told as good. No Go in sight. -/
/- A page's bytes with bits turned: pieces, how many bits are 0, what is told. No Go in sight. -/
/- A blank page, with bits turned. No Go in sight. -/
/- Two pages compared. -/
end Go.Proofs.YtalefbmoebobkaaGreatDoor
/- Parameters that are slices or arrays of numbers: opened; shut again by Below.trod (an argument reads behind the call as it did). -/
namespace Go.Proofs.YtalefbmoebobkaaGreatDoor
set_option maxRecDepth 100000
open Go.RowKit Go.ChangeShapes Go.WideShapes Go.ChangeAt
theorem add_block (a : Addr) (i : Nat) : (a.add i).block = a.block := by unfold Addr.add; split <;> rfl
section
variable {H : Type} {enc : TypeId × Value → H} {P : Program} {w : World}
end
end Go.Proofs.YtalefbmoebobkaaGreatDoor
/- The reference of layer 6, walked: Check, whole; Raw, Spread. -/
namespace Go.Proofs.YtalefbmoebobkaaGreatDoor
set_option maxRecDepth 100000
open Go.RowKit
theorem rge_check (b l y n s r : Int) (w : World) : Calls Tryz.prog 26 #[.agg (gv b l y n s r)] w (ChkT b l y n s r w) := by
 by_cases h : FirstG b l y
 ·exact rge_check_rest b l y n s r w h
 ·exact rge_check_first b l y n s r w h
end Go.Proofs.YtalefbmoebobkaaGreatDoor
/- Parameters that are structs of numbers alone: opened (shut by Below.trod: XArgs). -/
namespace Go.Proofs.YtalefbmoebobkaaGreatDoor
set_option maxRecDepth 100000
open Go.RowKit Go.ChangeShapes Go.WideShapes Go.ChangeAt
def numIn : Value → Int
 | .int _ a => a
 | _ => 0
theorem list6 {α : Type} {l : List α} (h : l.length = 6) : ∃ a b c d e f, l = [a, b, c, d, e, f] := by
 match l, h with
 | [a, b, c, d, e, f], _ => exact ⟨a, b, c, d, e, f, rfl⟩
section
variable {H : Type} {enc : TypeId × Value → H} {P : Program} {w : World}
theorem open_intsN {base : Nat} {sp : Nat → Bool} {held : Bool} {r : Go.Reach} {b0 : Nat} {t : TypeId} {fs : Array Field} {v : Value} {d : DataW H} {ps : List MemPlace} (hs : P.underlying t = some (.struct fs)) (hone : Deep.oneCellFields P fs = true)
  (hint : ∀ (i : Nat) f, fs[i]? = some f → P.underlying f.type = some (.int .i64)) (hC : P.cellsOf t = fs.size)
  (hval : Value.okWide P w r b0 t v) (hd : DataW.Trod enc P w base sp held t v d ps) : ∃ zs : List Int, zs.length = fs.size ∧ v = .agg (zs.map (Value.int .i64)).toArray := by
 obtain ⟨cs, rfl, hsz⟩ := okWide_struct hs hval
 obtain ⟨fuel, hf⟩ := hd
 obtain ⟨xs, n, _, _, hl, hlen, hx⟩ := DataW.trod_struct hs hf
 have hcs : cs.size = fs.size := hsz.trans hC
 refine ⟨cs.toList.map numIn, by simp [hcs], ?_⟩
 congr 1
 apply Array.ext_getElem?
 intro i
 by_cases hi : i < cs.size
 ·have hif : i < fs.size := by omega
  have hfi : fs[i]? = some fs[i] := by simp [hif]
  have h1 := hx i fs[i] hfi
  obtain ⟨o0, k0⟩ := Deep.hone_of hone i fs[i] hfi
  have hxi : i < xs.length := by omega
  rw [o0, k0, List.getElem?_eq_getElem hxi] at h1
  obtain ⟨a, ha, _⟩ := DataW.trod_int (hint i fs[i] hfi) h1
  have hc : cs[i]? = some (.int .i64 a) := by
   have h2 : (List.take 1 (List.drop i (Value.agg cs).cells.toList))[0]? = some (.int .i64 a) := by rw [ha]; rfl
   rw [List.getElem?_take_of_lt (by decide), List.getElem?_drop] at h2
   simpa [Value.cells] using h2
  rw [hc]
  simp [hc, numIn]
 ·rw [Array.getElem?_eq_none (by omega), Array.getElem?_eq_none (by simp; omega)]
end
end Go.Proofs.YtalefbmoebobkaaGreatDoor
/- Parameters of two numbers: opened and shut. -/
namespace Go.Proofs.YtalefbmoebobkaaGreatDoor
set_option maxRecDepth 100000
open Go.RowKit
section
variable {H : Type} {enc : TypeId × Value → H} {P : Program}
end
end Go.Proofs.YtalefbmoebobkaaGreatDoor
