/- Texts of one claim, merged: SnCB. -/
import Derived.Test.YtidakannaephoaaDoorS7
import Derived.Deep.RegionLaw
import Derived.Deep.AppendLies
import Derived.Deep.DeepCutAuto
import Derived.Deep.CutBlock

/- Package snap, walked: read. -/
namespace Go.Proofs.YtidakannaephoaaDoor
set_option maxRecDepth 100000
open Go.RowKit

/-- only what goes on -/
def NQS (K : Act → World → Prop) : Exit → Act → World → Prop := fun e a w => match e with
  | .normal => K a w
  | _ => False
theorem NQS.to {Q : Exit → Act → World → Prop} {e : Exit} {a : Act} {w : World} (h : NQS (Q .normal) e a w) : Q e a w := by
  cases e <;> first | exact h | exact h.elim
theorem NQS.normal {K : Act → World → Prop} {a : Act} {w : World} (h : K a w) : NQS K .normal a w := h
theorem no_specialL (l : List Tmp) {T : World → World → Prop} : ∀ (j : Nat) (a a' : Act) (w w' : World), (fun (_ : Nat) (_ : Act) (_ : World) => False) j a w → (∀ d ∈ l, a'.tmps.getD d undef = a.tmps.getD d undef) → T w w' → (fun (_ : Nat) (_ : Act) (_ : World) => False) j a' w' := fun _ _ _ _ _ h _ _ => h
theorem die_door {w wr w2 : World} {G : Array Value} {R M N K : Nat} {ps : List ByteArray} {Y p k : Nat} {V : List Value} {L : List (List Int)} (h : RW w G R ps Y p k V L wr) (ht : Turns R wr w2) (hnp : ¬ PagesOk ps M N K Y) (tmps : Array Value)
    (t4 : tmps.getD 4 undef = .pointer (some ⟨w.heap.size + 1, 0, none⟩)) (t5 : tmps.getD 5 undef = .pointer (some ⟨w.heap.size + 2, 0, none⟩)) :
    bodyPostD Tryd.prog Tryd.f24 (ReadS M N K Y ps R w) (.panic snapP) ⟨tmps, [clo (w.heap.size + 1) (w.heap.size + 2)]⟩ w2 := by
  obtain ⟨⟨⟨_, h2, h3⟩, h4, _⟩, _, ⟨h6, h7⟩, h8⟩ := h
  have h9 := h8.trans ht
  refine door_panic tmps w2 _ _ ⟨V⟩ (.int .i64 0) t4 t5 h4.1 (blk_turns h2 ht (by omega)) (blk_turns h3 ht (by omega)) (by omega) ⟨fun h => absurd h hnp, fun _ => rfl, ?_⟩
  refine ⟨h9.os, h9.tape, h9.output, ?_, fun b hb hbR => ?_⟩
  · rw [World.size_setCell, size_setRow]; exact h9.size
  · rw [Below.heap_setCell _ _ _ _ (by show b ≠ w.heap.size + 2; omega)]
    have e : (w2.setRow (w.heap.size + 1) nil4).heap[b]? = w2.heap[b]? := by
      simp only [World.setRow, Array.getElem?_modify]
      rw [if_neg (by omega)]
    rw [e]
    exact h9.block b hb hbR

theorem read_end {w wr : World} {G : Array Value} {R : Nat} {ps : List ByteArray} {Y p k : Nat} {V : List Value} {L : List (List Int)} (h : RW w G R ps Y p k V L wr) (A : Array Value) (v : Value) : Turns R w ((wr.setRow (w.heap.size + 1) A).setCell ⟨w.heap.size + 2, 0, none⟩ v) := by
  obtain ⟨_, _, ⟨h6, h7⟩, h9⟩ := h
  refine ⟨h9.os, h9.tape, h9.output, ?_, fun b hb hbR => ?_⟩
  · rw [World.size_setCell, size_setRow]; exact h9.size
  · rw [Below.heap_setCell _ _ _ _ (by show b ≠ w.heap.size + 2; omega)]
    have e : (wr.setRow (w.heap.size + 1) A).heap[b]? = wr.heap[b]? := by
      simp only [World.setRow, Array.getElem?_modify]
      rw [if_neg (by omega)]
    rw [e]
    exact h9.block b hb hbR

/-- what each operation of the region RD4 leaves -/
def vsRD4 (R S : Nat) (va : Value) : List (Option (Tmp × Value)) :=
  [some (11, .pointer (some ⟨S, 0, none⟩)), some (12, va), some (13, .pointer (some ⟨R, 0, none⟩)), none, none, none, none, none]
/-- the frame while the region RD4 runs -/
def BaseRD4 (R B0 S E : Nat) (a : Act) : Prop := ∃ u : Nat → Value, a = ⟨#[u 0, .pointer (some ⟨R, 0, none⟩), .pointer (some ⟨B0, 0, none⟩), u 3, .pointer (some ⟨S, 0, none⟩), .pointer (some ⟨E, 0, none⟩), u 6, u 7, u 8, u 9, u 10, u 11, u 12, u 13, u 14, u 15, u 16, u 17, u 18, u 19, u 20, u 21, u 22, u 23, u 24, u 25, u 26, u 27, u 28, u 29, u 30, u 31, u 32, u 33, u 34, u 35, u 36, u 37, u 38, u 39, u 40, u 41, u 42, u 43, u 44, u 45, u 46, u 47], [clo S E]⟩
theorem BaseRD4.of {R B0 S E : Nat} (arr : Array Value) (h : arr = #[arr.getD 0 undef, .pointer (some ⟨R, 0, none⟩), .pointer (some ⟨B0, 0, none⟩), arr.getD 3 undef, .pointer (some ⟨S, 0, none⟩), .pointer (some ⟨E, 0, none⟩), arr.getD 6 undef, arr.getD 7 undef, arr.getD 8 undef, arr.getD 9 undef, arr.getD 10 undef, arr.getD 11 undef, arr.getD 12 undef, arr.getD 13 undef, arr.getD 14 undef, arr.getD 15 undef, arr.getD 16 undef, arr.getD 17 undef, arr.getD 18 undef, arr.getD 19 undef, arr.getD 20 undef, arr.getD 21 undef, arr.getD 22 undef, arr.getD 23 undef, arr.getD 24 undef, arr.getD 25 undef, arr.getD 26 undef, arr.getD 27 undef, arr.getD 28 undef, arr.getD 29 undef, arr.getD 30 undef, arr.getD 31 undef, arr.getD 32 undef, arr.getD 33 undef, arr.getD 34 undef, arr.getD 35 undef, arr.getD 36 undef, arr.getD 37 undef, arr.getD 38 undef, arr.getD 39 undef, arr.getD 40 undef, arr.getD 41 undef, arr.getD 42 undef, arr.getD 43 undef, arr.getD 44 undef, arr.getD 45 undef, arr.getD 46 undef, arr.getD 47 undef]) : BaseRD4 R B0 S E ⟨arr, [clo S E]⟩ := ⟨fun i => arr.getD i undef, by rw [← h]⟩
theorem BaseRD4.put11 {R B0 S E : Nat} (a : Act) (v : Value) (h : BaseRD4 R B0 S E a) : BaseRD4 R B0 S E (a.put (some 11) v) := by
  obtain ⟨u, rfl⟩ := h
  exact ⟨fun i => if i = 11 then v else u i, by kernel_rfl⟩
theorem BaseRD4.put12 {R B0 S E : Nat} (a : Act) (v : Value) (h : BaseRD4 R B0 S E a) : BaseRD4 R B0 S E (a.put (some 12) v) := by
  obtain ⟨u, rfl⟩ := h
  exact ⟨fun i => if i = 12 then v else u i, by kernel_rfl⟩
theorem BaseRD4.put13 {R B0 S E : Nat} (a : Act) (v : Value) (h : BaseRD4 R B0 S E a) : BaseRD4 R B0 S E (a.put (some 13) v) := by
  obtain ⟨u, rfl⟩ := h
  exact ⟨fun i => if i = 13 then v else u i, by kernel_rfl⟩
theorem BaseRD4.put14 {R B0 S E : Nat} (a : Act) (v : Value) (h : BaseRD4 R B0 S E a) : BaseRD4 R B0 S E (a.put (some 14) v) := by
  obtain ⟨u, rfl⟩ := h
  exact ⟨fun i => if i = 14 then v else u i, by kernel_rfl⟩
theorem BaseRD4.put15 {R B0 S E : Nat} (a : Act) (v : Value) (h : BaseRD4 R B0 S E a) : BaseRD4 R B0 S E (a.put (some 15) v) := by
  obtain ⟨u, rfl⟩ := h
  exact ⟨fun i => if i = 15 then v else u i, by kernel_rfl⟩
theorem BaseRD4.put16 {R B0 S E : Nat} (a : Act) (v : Value) (h : BaseRD4 R B0 S E a) : BaseRD4 R B0 S E (a.put (some 16) v) := by
  obtain ⟨u, rfl⟩ := h
  exact ⟨fun i => if i = 16 then v else u i, by kernel_rfl⟩
theorem BaseRD4.put17 {R B0 S E : Nat} (a : Act) (v : Value) (h : BaseRD4 R B0 S E a) : BaseRD4 R B0 S E (a.put (some 17) v) := by
  obtain ⟨u, rfl⟩ := h
  exact ⟨fun i => if i = 17 then v else u i, by kernel_rfl⟩

/-- what each operation of the region RD8 leaves -/
def vsRD8 (R S : Nat) (va : Value) : List (Option (Tmp × Value)) :=
  [some (23, .pointer (some ⟨S, 1, none⟩)), some (24, va), some (25, .pointer (some ⟨R, 0, none⟩)), none, none, none, none, none]
/-- the frame while the region RD8 runs -/
def BaseRD8 (R B0 S E : Nat) (a : Act) : Prop := ∃ u : Nat → Value, a = ⟨#[u 0, .pointer (some ⟨R, 0, none⟩), .pointer (some ⟨B0, 0, none⟩), u 3, .pointer (some ⟨S, 0, none⟩), .pointer (some ⟨E, 0, none⟩), u 6, u 7, u 8, u 9, u 10, u 11, u 12, u 13, u 14, u 15, u 16, u 17, u 18, u 19, u 20, u 21, u 22, u 23, u 24, u 25, u 26, u 27, u 28, u 29, u 30, u 31, u 32, u 33, u 34, u 35, u 36, u 37, u 38, u 39, u 40, u 41, u 42, u 43, u 44, u 45, u 46, u 47], [clo S E]⟩
theorem BaseRD8.of {R B0 S E : Nat} (arr : Array Value) (h : arr = #[arr.getD 0 undef, .pointer (some ⟨R, 0, none⟩), .pointer (some ⟨B0, 0, none⟩), arr.getD 3 undef, .pointer (some ⟨S, 0, none⟩), .pointer (some ⟨E, 0, none⟩), arr.getD 6 undef, arr.getD 7 undef, arr.getD 8 undef, arr.getD 9 undef, arr.getD 10 undef, arr.getD 11 undef, arr.getD 12 undef, arr.getD 13 undef, arr.getD 14 undef, arr.getD 15 undef, arr.getD 16 undef, arr.getD 17 undef, arr.getD 18 undef, arr.getD 19 undef, arr.getD 20 undef, arr.getD 21 undef, arr.getD 22 undef, arr.getD 23 undef, arr.getD 24 undef, arr.getD 25 undef, arr.getD 26 undef, arr.getD 27 undef, arr.getD 28 undef, arr.getD 29 undef, arr.getD 30 undef, arr.getD 31 undef, arr.getD 32 undef, arr.getD 33 undef, arr.getD 34 undef, arr.getD 35 undef, arr.getD 36 undef, arr.getD 37 undef, arr.getD 38 undef, arr.getD 39 undef, arr.getD 40 undef, arr.getD 41 undef, arr.getD 42 undef, arr.getD 43 undef, arr.getD 44 undef, arr.getD 45 undef, arr.getD 46 undef, arr.getD 47 undef]) : BaseRD8 R B0 S E ⟨arr, [clo S E]⟩ := ⟨fun i => arr.getD i undef, by rw [← h]⟩
theorem BaseRD8.put23 {R B0 S E : Nat} (a : Act) (v : Value) (h : BaseRD8 R B0 S E a) : BaseRD8 R B0 S E (a.put (some 23) v) := by
  obtain ⟨u, rfl⟩ := h
  exact ⟨fun i => if i = 23 then v else u i, by kernel_rfl⟩
theorem BaseRD8.put24 {R B0 S E : Nat} (a : Act) (v : Value) (h : BaseRD8 R B0 S E a) : BaseRD8 R B0 S E (a.put (some 24) v) := by
  obtain ⟨u, rfl⟩ := h
  exact ⟨fun i => if i = 24 then v else u i, by kernel_rfl⟩
theorem BaseRD8.put25 {R B0 S E : Nat} (a : Act) (v : Value) (h : BaseRD8 R B0 S E a) : BaseRD8 R B0 S E (a.put (some 25) v) := by
  obtain ⟨u, rfl⟩ := h
  exact ⟨fun i => if i = 25 then v else u i, by kernel_rfl⟩
theorem BaseRD8.put26 {R B0 S E : Nat} (a : Act) (v : Value) (h : BaseRD8 R B0 S E a) : BaseRD8 R B0 S E (a.put (some 26) v) := by
  obtain ⟨u, rfl⟩ := h
  exact ⟨fun i => if i = 26 then v else u i, by kernel_rfl⟩
theorem BaseRD8.put27 {R B0 S E : Nat} (a : Act) (v : Value) (h : BaseRD8 R B0 S E a) : BaseRD8 R B0 S E (a.put (some 27) v) := by
  obtain ⟨u, rfl⟩ := h
  exact ⟨fun i => if i = 27 then v else u i, by kernel_rfl⟩
theorem BaseRD8.put28 {R B0 S E : Nat} (a : Act) (v : Value) (h : BaseRD8 R B0 S E a) : BaseRD8 R B0 S E (a.put (some 28) v) := by
  obtain ⟨u, rfl⟩ := h
  exact ⟨fun i => if i = 28 then v else u i, by kernel_rfl⟩
theorem BaseRD8.put29 {R B0 S E : Nat} (a : Act) (v : Value) (h : BaseRD8 R B0 S E a) : BaseRD8 R B0 S E (a.put (some 29) v) := by
  obtain ⟨u, rfl⟩ := h
  exact ⟨fun i => if i = 29 then v else u i, by kernel_rfl⟩

/-- what each operation of the region RD9 leaves -/
def vsRD9 (R S : Nat) (va : Value) : List (Option (Tmp × Value)) :=
  [some (30, .pointer (some ⟨S, 2, none⟩)), some (31, va), some (32, .pointer (some ⟨R, 0, none⟩)), none, none, none, none, none]
/-- the frame while the region RD9 runs -/
def BaseRD9 (R B0 S E : Nat) (a : Act) : Prop := ∃ u : Nat → Value, a = ⟨#[u 0, .pointer (some ⟨R, 0, none⟩), .pointer (some ⟨B0, 0, none⟩), u 3, .pointer (some ⟨S, 0, none⟩), .pointer (some ⟨E, 0, none⟩), u 6, u 7, u 8, u 9, u 10, u 11, u 12, u 13, u 14, u 15, u 16, u 17, u 18, u 19, u 20, u 21, u 22, u 23, u 24, u 25, u 26, u 27, u 28, u 29, u 30, u 31, u 32, u 33, u 34, u 35, u 36, u 37, u 38, u 39, u 40, u 41, u 42, u 43, u 44, u 45, u 46, u 47], [clo S E]⟩
theorem BaseRD9.of {R B0 S E : Nat} (arr : Array Value) (h : arr = #[arr.getD 0 undef, .pointer (some ⟨R, 0, none⟩), .pointer (some ⟨B0, 0, none⟩), arr.getD 3 undef, .pointer (some ⟨S, 0, none⟩), .pointer (some ⟨E, 0, none⟩), arr.getD 6 undef, arr.getD 7 undef, arr.getD 8 undef, arr.getD 9 undef, arr.getD 10 undef, arr.getD 11 undef, arr.getD 12 undef, arr.getD 13 undef, arr.getD 14 undef, arr.getD 15 undef, arr.getD 16 undef, arr.getD 17 undef, arr.getD 18 undef, arr.getD 19 undef, arr.getD 20 undef, arr.getD 21 undef, arr.getD 22 undef, arr.getD 23 undef, arr.getD 24 undef, arr.getD 25 undef, arr.getD 26 undef, arr.getD 27 undef, arr.getD 28 undef, arr.getD 29 undef, arr.getD 30 undef, arr.getD 31 undef, arr.getD 32 undef, arr.getD 33 undef, arr.getD 34 undef, arr.getD 35 undef, arr.getD 36 undef, arr.getD 37 undef, arr.getD 38 undef, arr.getD 39 undef, arr.getD 40 undef, arr.getD 41 undef, arr.getD 42 undef, arr.getD 43 undef, arr.getD 44 undef, arr.getD 45 undef, arr.getD 46 undef, arr.getD 47 undef]) : BaseRD9 R B0 S E ⟨arr, [clo S E]⟩ := ⟨fun i => arr.getD i undef, by rw [← h]⟩
theorem BaseRD9.put30 {R B0 S E : Nat} (a : Act) (v : Value) (h : BaseRD9 R B0 S E a) : BaseRD9 R B0 S E (a.put (some 30) v) := by
  obtain ⟨u, rfl⟩ := h
  exact ⟨fun i => if i = 30 then v else u i, by kernel_rfl⟩
theorem BaseRD9.put31 {R B0 S E : Nat} (a : Act) (v : Value) (h : BaseRD9 R B0 S E a) : BaseRD9 R B0 S E (a.put (some 31) v) := by
  obtain ⟨u, rfl⟩ := h
  exact ⟨fun i => if i = 31 then v else u i, by kernel_rfl⟩
theorem BaseRD9.put32 {R B0 S E : Nat} (a : Act) (v : Value) (h : BaseRD9 R B0 S E a) : BaseRD9 R B0 S E (a.put (some 32) v) := by
  obtain ⟨u, rfl⟩ := h
  exact ⟨fun i => if i = 32 then v else u i, by kernel_rfl⟩
theorem BaseRD9.put33 {R B0 S E : Nat} (a : Act) (v : Value) (h : BaseRD9 R B0 S E a) : BaseRD9 R B0 S E (a.put (some 33) v) := by
  obtain ⟨u, rfl⟩ := h
  exact ⟨fun i => if i = 33 then v else u i, by kernel_rfl⟩
theorem BaseRD9.put34 {R B0 S E : Nat} (a : Act) (v : Value) (h : BaseRD9 R B0 S E a) : BaseRD9 R B0 S E (a.put (some 34) v) := by
  obtain ⟨u, rfl⟩ := h
  exact ⟨fun i => if i = 34 then v else u i, by kernel_rfl⟩
theorem BaseRD9.put35 {R B0 S E : Nat} (a : Act) (v : Value) (h : BaseRD9 R B0 S E a) : BaseRD9 R B0 S E (a.put (some 35) v) := by
  obtain ⟨u, rfl⟩ := h
  exact ⟨fun i => if i = 35 then v else u i, by kernel_rfl⟩
theorem BaseRD9.put36 {R B0 S E : Nat} (a : Act) (v : Value) (h : BaseRD9 R B0 S E a) : BaseRD9 R B0 S E (a.put (some 36) v) := by
  obtain ⟨u, rfl⟩ := h
  exact ⟨fun i => if i = 36 then v else u i, by kernel_rfl⟩

/-- what each operation of the region RD10 leaves -/
def vsRD10 (R S : Nat) (va : Value) : List (Option (Tmp × Value)) :=
  [some (37, .pointer (some ⟨S, 3, none⟩)), some (38, va), some (39, .pointer (some ⟨R, 0, none⟩)), none, none, none, none, none]
/-- the frame while the region RD10 runs -/
def BaseRD10 (R B0 S E : Nat) (a : Act) : Prop := ∃ u : Nat → Value, a = ⟨#[u 0, .pointer (some ⟨R, 0, none⟩), .pointer (some ⟨B0, 0, none⟩), u 3, .pointer (some ⟨S, 0, none⟩), .pointer (some ⟨E, 0, none⟩), u 6, u 7, u 8, u 9, u 10, u 11, u 12, u 13, u 14, u 15, u 16, u 17, u 18, u 19, u 20, u 21, u 22, u 23, u 24, u 25, u 26, u 27, u 28, u 29, u 30, u 31, u 32, u 33, u 34, u 35, u 36, u 37, u 38, u 39, u 40, u 41, u 42, u 43, u 44, u 45, u 46, u 47], [clo S E]⟩
theorem BaseRD10.of {R B0 S E : Nat} (arr : Array Value) (h : arr = #[arr.getD 0 undef, .pointer (some ⟨R, 0, none⟩), .pointer (some ⟨B0, 0, none⟩), arr.getD 3 undef, .pointer (some ⟨S, 0, none⟩), .pointer (some ⟨E, 0, none⟩), arr.getD 6 undef, arr.getD 7 undef, arr.getD 8 undef, arr.getD 9 undef, arr.getD 10 undef, arr.getD 11 undef, arr.getD 12 undef, arr.getD 13 undef, arr.getD 14 undef, arr.getD 15 undef, arr.getD 16 undef, arr.getD 17 undef, arr.getD 18 undef, arr.getD 19 undef, arr.getD 20 undef, arr.getD 21 undef, arr.getD 22 undef, arr.getD 23 undef, arr.getD 24 undef, arr.getD 25 undef, arr.getD 26 undef, arr.getD 27 undef, arr.getD 28 undef, arr.getD 29 undef, arr.getD 30 undef, arr.getD 31 undef, arr.getD 32 undef, arr.getD 33 undef, arr.getD 34 undef, arr.getD 35 undef, arr.getD 36 undef, arr.getD 37 undef, arr.getD 38 undef, arr.getD 39 undef, arr.getD 40 undef, arr.getD 41 undef, arr.getD 42 undef, arr.getD 43 undef, arr.getD 44 undef, arr.getD 45 undef, arr.getD 46 undef, arr.getD 47 undef]) : BaseRD10 R B0 S E ⟨arr, [clo S E]⟩ := ⟨fun i => arr.getD i undef, by rw [← h]⟩
theorem BaseRD10.put37 {R B0 S E : Nat} (a : Act) (v : Value) (h : BaseRD10 R B0 S E a) : BaseRD10 R B0 S E (a.put (some 37) v) := by
  obtain ⟨u, rfl⟩ := h
  exact ⟨fun i => if i = 37 then v else u i, by kernel_rfl⟩
theorem BaseRD10.put38 {R B0 S E : Nat} (a : Act) (v : Value) (h : BaseRD10 R B0 S E a) : BaseRD10 R B0 S E (a.put (some 38) v) := by
  obtain ⟨u, rfl⟩ := h
  exact ⟨fun i => if i = 38 then v else u i, by kernel_rfl⟩
theorem BaseRD10.put39 {R B0 S E : Nat} (a : Act) (v : Value) (h : BaseRD10 R B0 S E a) : BaseRD10 R B0 S E (a.put (some 39) v) := by
  obtain ⟨u, rfl⟩ := h
  exact ⟨fun i => if i = 39 then v else u i, by kernel_rfl⟩
theorem BaseRD10.put40 {R B0 S E : Nat} (a : Act) (v : Value) (h : BaseRD10 R B0 S E a) : BaseRD10 R B0 S E (a.put (some 40) v) := by
  obtain ⟨u, rfl⟩ := h
  exact ⟨fun i => if i = 40 then v else u i, by kernel_rfl⟩
theorem BaseRD10.put41 {R B0 S E : Nat} (a : Act) (v : Value) (h : BaseRD10 R B0 S E a) : BaseRD10 R B0 S E (a.put (some 41) v) := by
  obtain ⟨u, rfl⟩ := h
  exact ⟨fun i => if i = 41 then v else u i, by kernel_rfl⟩
theorem BaseRD10.put42 {R B0 S E : Nat} (a : Act) (v : Value) (h : BaseRD10 R B0 S E a) : BaseRD10 R B0 S E (a.put (some 42) v) := by
  obtain ⟨u, rfl⟩ := h
  exact ⟨fun i => if i = 42 then v else u i, by kernel_rfl⟩
theorem BaseRD10.put43 {R B0 S E : Nat} (a : Act) (v : Value) (h : BaseRD10 R B0 S E a) : BaseRD10 R B0 S E (a.put (some 43) v) := by
  obtain ⟨u, rfl⟩ := h
  exact ⟨fun i => if i = 43 then v else u i, by kernel_rfl⟩

set_option maxHeartbeats 8000000 in
theorem sn_read (w : World) (M N Y K l : Nat) (s r : Int) (R : Nat) (ps : List ByteArray) (hN : N ≤ 4096) (hM : M ≤ 64) (hY : 16 ≤ Y) (hY2 : Y ≤ 256) (hK : 6 * N + 10 * M ≤ K * Y) (hK2 : K * Y < 6 * N + 10 * M + Y) (hR : R < w.heap.size) (hrd : RdS w R w.heap.size ps Y ByteArray.empty) :
    Calls Tryd.prog 24 #[.agg (gv M l Y N s r), .pointer (some ⟨R, 0, none⟩)] w (ReadS M N K Y ps R w) := by
  have HBD : Hid (N ≤ 4096 ∧ M ≤ 64 ∧ 16 ≤ Y ∧ Y ≤ 256) := ⟨hN, hM, hY, hY2⟩
  have HKM : Hid (6 * N + 10 * M ≤ K * Y ∧ K * Y < 6 * N + 10 * M + Y) := ⟨hK, hK2⟩
  have HRW0 := Lib.hid (RW.start w (gv M l Y N s r) R ps Y (by omega) hR hrd)
  clear hN hM hY hY2 hK hK2 hR hrd
  have hmf : ∀ (fn : Fn) (first cap : Array Value) (w : World), (Instr.makeFunc fn first cap).run Tryd.prog w = .ok (.func fn first cap) w := fun _ _ _ _ => rfl
  obtain ⟨i0, hi0, hz0, hz1, hz2⟩ := info_partsX infoInt
  have c3 : (((w.alloc (.cells (gv M l Y N s r) 23)).alloc (.cells #[.slice none 0 0, .slice none 0 0, .slice none 0 0, .slice none 0 0] 26)).alloc (.cells #[.int .i64 0] 29)).cell? ⟨w.heap.size, 3, none⟩ = some (.int .i64 N) := HRW0.out.1.1.1.cell 3
  go_enter_defers Tryd.func24, Tryd.ntmps24
  go_wp2_with fail
  change Hid (RW w (gv M l Y N s r) R ps Y 0 0 [.slice none 0 0, .slice none 0 0, .slice none 0 0, .slice none 0 0] [[], [], [], []] (((w.alloc (.cells (gv M l Y N s r) 23)).alloc (.cells #[.slice none 0 0, .slice none 0 0, .slice none 0 0, .slice none 0 0] 26)).alloc (.cells #[.int .i64 0] 29))) at HRW0
  generalize ((w.alloc (.cells (gv M l Y N s r) 23)).alloc (.cells #[.slice none 0 0, .slice none 0 0, .slice none 0 0, .slice none 0 0] 26)).alloc (.cells #[.int .i64 0] 29) = w2 at HRW0 ⊢
  clear hmf c3
  go_loopw [9] (fun iv wr => ∃ (j k : Nat) (v0 : Value), j ≤ N ∧ iv = .int .i64 j ∧ Hid (RW w (gv M l Y N s r) R ps Y (6 * j) k [v0, .slice none 0 0, .slice none 0 0, .slice none 0 0] [(List.range j).map (fun q => numAt (catP ps) (6 * q) 6), [], [], []] wr)) (fun iv _ => N + 1 - (intOf iv).toNat)
  case atStart => exact ⟨0, 0, _, Nat.zero_le _, rfl, HRW0.out⟩
  case round =>
    obtain ⟨j, k, v0, hj, rfl, HRW⟩ := hrel
    by_cases hlt : j < N
    · have hltz : (j : Int) < (N : Int) := by omega
      have hj4 : j ≤ 4096 := by have := HBD.out.1; omega
      obtain ⟨l0, hl0⟩ : ∃ l0, (List.range j).map (fun q => numAt (catP ps) (6 * q) 6) = l0 := ⟨_, rfl⟩
      have HL0 := Lib.hid hl0
      have HLEN : Hid (l0.length = j) := by show l0.length = j; rw [← hl0]; simp
      rw [hl0] at HRW
      clear hl0
      go_upto_region 4 with fail
      by_cases hok : NumOk ps Y (6 * j) 6 k
      · obtain ⟨x, hx⟩ : ∃ x, numAt (catP ps) (6 * j) 6 = x := ⟨_, rfl⟩
        have HX := Lib.hid hx
        have HCALL : Hid (∀ w', RW w (gv M l Y N s r) R ps Y (6 * j) k [v0, .slice none 0 0, .slice none 0 0, .slice none 0 0] [l0, [], [], []] w' → Calls Tryd.prog 41 #[.pointer (some ⟨R, 0, none⟩), .int .i64 6] w' fun e w2 => e = .returned (.int .i64 x) ∧ ∃ k', RW w (gv M l Y N s r) R ps Y (6 * j + 6) k' [v0, .slice none 0 0, .slice none 0 0, .slice none 0 0] [l0, [], [], []] w2) := fun w' h => by
          rw [← hx]
          refine (step_yes w' R _ ps Y (6 * j) 6 k (by decide) (by decide) HBD.out.2.2.1 HBD.out.2.2.2 h.2.1 hok).mono ?_
          rintro e w2 ⟨rfl, ⟨k', hg⟩, ht⟩
          exact ⟨rfl, k', h.turn ht hg⟩
        have d0 : wr.cell? ⟨w.heap.size + 1, 0, none⟩ = some v0 := HRW.out.1.1.2.1.cell 0
        have d0b : wr.drew.cell? ⟨w.heap.size + 1, 0, none⟩ = some v0 := HRW.out.drew.1.1.2.1.cell 0
        clear hx hok
        refine Code.wp_mono (fun _ _ _ h => NQS.to h) ?_
        go_region_law (first
          | (go_simp; go_at_call 41; refine (HCALL.out _ HRW.out.drew).mono ?_; rintro e w' ⟨rfl, k', hrw⟩; have hd := hrw.1.1.2.1; have hbs := hrw.2.2.1.2; have hown : w'.ownsRow (w.heap.size + 3) 3 1 v0 j (intV l0) := (by have h2 := hrw.own 0 (by decide); have h3 : ([l0, [], [], []].getD 0 []).length = j := HLEN.out; rw [h3] at h2; exact h2); have d0' : w'.cell? ⟨w.heap.size + 1, 0, none⟩ = some v0 := hd.cell 0; have d0a : (w'.alloc (.cells #[.int .i64 x] 3)).cell? ⟨w.heap.size + 1, 0, none⟩ = some v0 := (hd.alloc _).cell 0)
          | (refine step_append_lies _ rfl (.tmp 12) (.tmp 15) 24 rfl (w.heap.size + 3) 3 i0 (.int .i64 0) 1 8 Tryd.underlying24 hi0 hz0 hz1 hz2 rfl (by decide) v0 j _ (by simp [Act.eval]) (by first | exact hown.alloc _ | exact (hown.alloc _).drew) ⟨w'.heap.size, 0, none⟩ 1 1 [.int .i64 x] (by simp [Act.eval]) rfl (fun k u hk => cells_newX w' #[.int .i64 x] 3 k u hk) (by intro u hu; simp at hu; subst hu; rfl) (by decide) (by unfold maxLen; omega) (by omega) (by simp; omega) _ rfl ?_; intro g cap w5 hown5 hg5 hat5 _; have hk5 := blk_grownS (hd.alloc (.cells #[.int .i64 x] 3)) hg5 (own_ne hown (by omega)); have d5 := hk5.cell 0; have f5 := hk5.free 0))
        all_goals
          refine NQS.normal ?_
          have hga : (w'.alloc (.cells #[.int .i64 x] 3)).grownBy w5 (v0).ownBlock := ⟨hg5.os, hg5.tape, hg5.output, hg5.size, hg5.block⟩
          have HRW5 : Hid (RW w (gv M l Y N s r) R ps Y (6 * j + 6) k' [(.slice (some ⟨g, 0, none⟩) (j + 1) cap), .slice none 0 0, .slice none 0 0, .slice none 0 0] [(l0 ++ [x]), [], [], []] (w5.setCell ⟨w.heap.size + 1, 0, none⟩ (.slice (some ⟨g, 0, none⟩) (j + 1) cap))) := hrw.store (i := 0) (by decide) HLEN.out hown5 hga (by rcases hat5 with h | h; exact Or.inl h; exact Or.inr (by simpa using h))
          generalize w5.setCell ⟨w.heap.size + 1, 0, none⟩ (.slice (some ⟨g, 0, none⟩) (j + 1) cap) = w6 at HRW5 ⊢
          clear hown5 hg5 hga hat5 hk5 d5 f5 d0 d0b d0' d0a hd hbs hown hrw HCALL
          go_wp2_with fail
          refine ⟨⟨j + 1, k', .slice (some ⟨g, 0, none⟩) (j + 1) cap, by omega, by go_num, ?_⟩, ?_⟩
          · rw [List.range_succ, List.map_append]
            show Hid (RW _ _ _ _ _ (6 * (j + 1)) _ _ [(List.range j).map _ ++ [numAt (catP ps) (6 * j) 6], [], [], []] _)
            rw [HL0.out, HX.out, Nat.mul_add]
            exact HRW5
          · simp [intOf]; omega
      · have HDIE : Hid (Calls Tryd.prog 41 #[.pointer (some ⟨R, 0, none⟩), .int .i64 6] wr.drew (NumN R wr.drew)) := step_no wr.drew R _ ps Y (6 * j) 6 k HBD.out.2.2.2 HRW.out.drew.2.1 hok
        have HNP : ¬ PagesOk ps M N K Y := no_pages hok (by have := HBD.out; omega) HKM.out.1
        have HCV : Hid (wr.drew.cell? ⟨w.heap.size + 1, 0, none⟩ = some v0) := HRW.out.drew.1.1.2.1.cell 0
        have HDOOR : Hid (∀ tmps w2, tmps.getD 4 undef = .pointer (some ⟨w.heap.size + 1, 0, none⟩) → tmps.getD 5 undef = .pointer (some ⟨w.heap.size + 2, 0, none⟩) → Turns R wr.drew w2 → bodyPostD Tryd.prog Tryd.f24 (ReadS M N K Y ps R w) (.panic snapP) ⟨tmps, [clo (w.heap.size + 1) (w.heap.size + 2)]⟩ w2) := fun tmps w2 t4 t5 ht => die_door HRW.out.drew ht HNP tmps t4 t5
        clear hok HNP
        rename_i K0 hK0
        refine wp_region_list3 (SV (vsRD4 R (w.heap.size + 1) v0) [14]) (BaseRD4 R w.heap.size (w.heap.size + 1) (w.heap.size + 2)) (fun w' => w' = wr.drew) (fun _ _ => True) (RV (vsRD4 R (w.heap.size + 1) v0) (fun _ _ _ => False)) rfl (by kernel_rfl) (RV.ext (no_specialL _)) ?_ (rfl) (BaseRD4.of _ (by kernel_rfl)) ?_ ?_
        · exact ⟨BaseRD4.put11, BaseRD4.put12, BaseRD4.put13, BaseRD4.put14, BaseRD4.put15, BaseRD4.put16, BaseRD4.put17, fun a v h => h, trivial⟩
        · refine ⟨?_, ?_, ?_, ?_, ?_, ?_, ?_, ?_, trivial⟩
          all_goals
            intro a w' hC hB hR
            obtain ⟨u, rfl⟩ := hB
            have HC := Lib.hid hC
            clear hC
            clear hK0
          · clear hR
            refine if_yes (by kernel_rfl) ?_
            unfold Oper.wp
            go_simp
            exact ⟨.pointer (some ⟨w.heap.size + 1, 0, none⟩), rfl, HC.out, trivial, rfl⟩
          · have h11 : u 11 = .pointer (some ⟨w.heap.size + 1, 0, none⟩) := hR ⟨0, .data⟩ (by simp) rfl
            have hc : w'.cell? ⟨w.heap.size + 1, 0, none⟩ = some v0 := by rw [HC.out]; exact HCV.out
            clear hR
            simp only [h11]
            clear h11
            refine if_yes (by kernel_rfl) ?_
            unfold Oper.wp
            go_simp
            exact ⟨v0, rfl, HC.out, trivial, rfl⟩
          · clear hR
            refine if_yes (by kernel_rfl) ?_
            unfold Oper.wp
            go_simp
            exact ⟨.pointer (some ⟨R, 0, none⟩), rfl, HC.out, trivial, rfl⟩
          · have h13 : u 13 = .pointer (some ⟨R, 0, none⟩) := hR ⟨2, .data⟩ (by simp) rfl
            clear hR
            simp only [h13]
            clear h13
            refine if_yes (by kernel_rfl) ?_
            unfold Oper.wp
            go_simp
            rw [HC.out]
            refine HDIE.out.mono ?_
            rintro e w2 ⟨rfl, htu⟩
            exact HDOOR.out _ w2 rfl rfl htu
          · have hF : False := hR ⟨3, .data⟩ (by simp) rfl
            clear hR
            refine if_yes (by kernel_rfl) ?_
            exact hF.elim
          · have h12 : u 12 = v0 := hR ⟨1, .data⟩ (by simp) rfl
            have hF : False := hR ⟨4, .data⟩ (by simp) rfl
            clear hR
            simp only [h12]
            clear h12
            refine if_yes (by kernel_rfl) ?_
            exact hF.elim
          · have hF : False := hR ⟨3, .phase⟩ (by simp) rfl
            clear hR
            refine if_yes (by kernel_rfl) ?_
            exact hF.elim
          · have hF : False := hR ⟨3, .phase⟩ (by simp) rfl
            clear hR
            refine if_yes (by kernel_rfl) ?_
            exact hF.elim
        · intro a w' hC hB hR
          exact (hR 3 (by decide) : False).elim
    · obtain rfl : j = N := by omega
      have hltz : ¬ (j : Int) < (j : Int) := by omega
      have c0 : wr.cell? ⟨w.heap.size, 0, none⟩ = some (.int .i64 M) := HRW.out.1.1.1.cell 0
      clear hlt
      obtain ⟨l0, hl0⟩ : ∃ l0, (List.range j).map (fun q => numAt (catP ps) (6 * q) 6) = l0 := ⟨_, rfl⟩
      have HL0 := Lib.hid hl0
      rw [hl0] at HRW
      clear hl0 HRW0
      go_wp2_with fail
      obtain ⟨w7, hw7⟩ : ∃ w7, wr = w7 := ⟨_, rfl⟩
      have HRW7 := HRW
      rw [hw7] at HRW7 ⊢
      clear hw7 HRW c0 hltz
      go_loopw [21] (fun iv wr => ∃ (t k : Nat) (v1 v2 v3 : Value), t ≤ M ∧ iv = .int .i64 t ∧ Hid (RW w (gv M l Y j s r) R ps Y (6 * j + 10 * t) k [v0, v1, v2, v3] [l0, (List.range t).map (fun q => numAt (catP ps) (6 * j + 10 * q) 4), (List.range t).map (fun q => numAt (catP ps) (6 * j + 10 * q + 4) 3), (List.range t).map (fun q => numAt (catP ps) (6 * j + 10 * q + 7) 3)] wr)) (fun iv _ => M + 1 - (intOf iv).toNat)
      case atStart => exact ⟨0, k, _, _, _, Nat.zero_le _, rfl, HRW7.out⟩
      case round =>
        obtain ⟨t, k, v1, v2, v3, ht, rfl, HRW⟩ := hrel
        obtain ⟨l1, hl1⟩ : ∃ l1, (List.range t).map (fun q => numAt (catP ps) (6 * j + 10 * q) 4) = l1 := ⟨_, rfl⟩
        obtain ⟨l2, hl2⟩ : ∃ l2, (List.range t).map (fun q => numAt (catP ps) (6 * j + 10 * q + 4) 3) = l2 := ⟨_, rfl⟩
        obtain ⟨l3, hl3⟩ : ∃ l3, (List.range t).map (fun q => numAt (catP ps) (6 * j + 10 * q + 7) 3) = l3 := ⟨_, rfl⟩
        have HL : Hid ((List.range t).map (fun q => numAt (catP ps) (6 * j + 10 * q) 4) = l1 ∧ (List.range t).map (fun q => numAt (catP ps) (6 * j + 10 * q + 4) 3) = l2 ∧ (List.range t).map (fun q => numAt (catP ps) (6 * j + 10 * q + 7) 3) = l3) := ⟨hl1, hl2, hl3⟩
        have HLEN1 : Hid (l1.length = t) := by show l1.length = t; rw [← hl1]; simp
        have HLEN2 : Hid (l2.length = t) := by show l2.length = t; rw [← hl2]; simp
        have HLEN3 : Hid (l3.length = t) := by show l3.length = t; rw [← hl3]; simp
        rw [hl1, hl2, hl3] at HRW
        clear hl1 hl2 hl3
        by_cases hlt : t < M
        · have hltz : (t : Int) < (M : Int) := by omega
          have hj4 : t ≤ 4096 := by have := HBD.out.2.1; omega
          have HLEN := HLEN1
          go_upto_region 8 with fail
          go_cut [21] from 21 to 44 (fun s21 wx => s21 = .int .i64 (t : Int) ∧ ∃ (q : Nat) (u : Value), Hid (RW w (gv M l Y j s r) R ps Y (6 * j + 10 * t + 4) q [v0, u, v2, v3] [l0, (l1 ++ [numAt (catP ps) (6 * j + 10 * t) 4]), l2, l3] wx))
          case first =>
            by_cases hok : NumOk ps Y (6 * j + 10 * t) 4 k
            · obtain ⟨x, hx⟩ : ∃ x, numAt (catP ps) (6 * j + 10 * t) 4 = x := ⟨_, rfl⟩
              have HX := Lib.hid hx
              have HCALL : Hid (∀ w', RW w (gv M l Y j s r) R ps Y (6 * j + 10 * t) k [v0, v1, v2, v3] [l0, l1, l2, l3] w' → Calls Tryd.prog 41 #[.pointer (some ⟨R, 0, none⟩), .int .i64 4] w' fun e w2 => e = .returned (.int .i64 x) ∧ ∃ k', RW w (gv M l Y j s r) R ps Y (6 * j + 10 * t + 4) k' [v0, v1, v2, v3] [l0, l1, l2, l3] w2) := fun w' h => by
                rw [← hx]
                refine (step_yes w' R _ ps Y (6 * j + 10 * t) 4 k (by decide) (by decide) HBD.out.2.2.1 HBD.out.2.2.2 h.2.1 hok).mono ?_
                rintro e w2 ⟨rfl, ⟨k', hg⟩, ht⟩
                exact ⟨rfl, k', h.turn ht hg⟩
              have d0 : wr.cell? ⟨w.heap.size + 1, 1, none⟩ = some v1 := HRW.out.1.1.2.1.cell 1
              have d0b : wr.drew.cell? ⟨w.heap.size + 1, 1, none⟩ = some v1 := HRW.out.drew.1.1.2.1.cell 1
              clear hx hok
              refine Code.wp_mono (fun _ _ _ h => NQS.to h) ?_
              go_region_law (first
                | (go_simp; go_at_call 41; refine (HCALL.out _ HRW.out.drew).mono ?_; rintro e w' ⟨rfl, k', hrw⟩; have hd := hrw.1.1.2.1; have hbs := hrw.2.2.1.2; have hown : w'.ownsRow (w.heap.size + 3) 3 1 v1 t (intV l1) := (by have h2 := hrw.own 1 (by decide); have h3 : ([l0, l1, l2, l3].getD 1 []).length = t := HLEN.out; rw [h3] at h2; exact h2); have d0' : w'.cell? ⟨w.heap.size + 1, 1, none⟩ = some v1 := hd.cell 1; have d0a : (w'.alloc (.cells #[.int .i64 x] 3)).cell? ⟨w.heap.size + 1, 1, none⟩ = some v1 := (hd.alloc _).cell 1)
                | (refine step_append_lies _ rfl (.tmp 24) (.tmp 27) 24 rfl (w.heap.size + 3) 3 i0 (.int .i64 0) 1 8 Tryd.underlying24 hi0 hz0 hz1 hz2 rfl (by decide) v1 t _ (by simp [Act.eval]) (by first | exact hown.alloc _ | exact (hown.alloc _).drew) ⟨w'.heap.size, 0, none⟩ 1 1 [.int .i64 x] (by simp [Act.eval]) rfl (fun k u hk => cells_newX w' #[.int .i64 x] 3 k u hk) (by intro u hu; simp at hu; subst hu; rfl) (by decide) (by unfold maxLen; omega) (by omega) (by simp; omega) _ rfl ?_; intro g cap w5 hown5 hg5 hat5 _; have hk5 := blk_grownS (hd.alloc (.cells #[.int .i64 x] 3)) hg5 (own_ne hown (by omega)); have d5 := hk5.cell 1; have f5 := hk5.free 1))
              all_goals
                refine NQS.normal ?_
                have hga : (w'.alloc (.cells #[.int .i64 x] 3)).grownBy w5 (v1).ownBlock := ⟨hg5.os, hg5.tape, hg5.output, hg5.size, hg5.block⟩
                have HRW5 : Hid (RW w (gv M l Y j s r) R ps Y (6 * j + 10 * t + 4) k' [v0, (.slice (some ⟨g, 0, none⟩) (t + 1) cap), v2, v3] [l0, (l1 ++ [x]), l2, l3] (w5.setCell ⟨w.heap.size + 1, 1, none⟩ (.slice (some ⟨g, 0, none⟩) (t + 1) cap))) := hrw.store (i := 1) (by decide) HLEN.out hown5 hga (by rcases hat5 with h | h; exact Or.inl h; exact Or.inr (by simpa using h))
                generalize w5.setCell ⟨w.heap.size + 1, 1, none⟩ (.slice (some ⟨g, 0, none⟩) (t + 1) cap) = w6 at HRW5 ⊢
                clear hown5 hg5 hga hat5 hk5 d5 f5 d0 d0b d0' d0a hd hbs hown hrw HCALL
                rw [← HX.out] at HRW5
                go_wp2_with fail
                go_meet
                case rel => exact ⟨rfl, k', _, HRW5⟩
            · have HDIE : Hid (Calls Tryd.prog 41 #[.pointer (some ⟨R, 0, none⟩), .int .i64 4] wr.drew (NumN R wr.drew)) := step_no wr.drew R _ ps Y (6 * j + 10 * t) 4 k HBD.out.2.2.2 HRW.out.drew.2.1 hok
              have HNP : ¬ PagesOk ps M j K Y := no_pages hok (by have := HBD.out; omega) HKM.out.1
              have HCV : Hid (wr.drew.cell? ⟨w.heap.size + 1, 1, none⟩ = some v1) := HRW.out.drew.1.1.2.1.cell 1
              have HDOOR : Hid (∀ tmps w2, tmps.getD 4 undef = .pointer (some ⟨w.heap.size + 1, 0, none⟩) → tmps.getD 5 undef = .pointer (some ⟨w.heap.size + 2, 0, none⟩) → Turns R wr.drew w2 → bodyPostD Tryd.prog Tryd.f24 (ReadS M j K Y ps R w) (.panic snapP) ⟨tmps, [clo (w.heap.size + 1) (w.heap.size + 2)]⟩ w2) := fun tmps w2 t4 t5 ht => die_door HRW.out.drew ht HNP tmps t4 t5
              clear hok HNP
              rename_i K0 hK0
              refine wp_region_list3 (SV (vsRD8 R (w.heap.size + 1) v1) [26]) (BaseRD8 R w.heap.size (w.heap.size + 1) (w.heap.size + 2)) (fun w' => w' = wr.drew) (fun _ _ => True) (RV (vsRD8 R (w.heap.size + 1) v1) (fun _ _ _ => False)) rfl (by kernel_rfl) (RV.ext (no_specialL _)) ?_ (rfl) (BaseRD8.of _ (by kernel_rfl)) ?_ ?_
              · exact ⟨BaseRD8.put23, BaseRD8.put24, BaseRD8.put25, BaseRD8.put26, BaseRD8.put27, BaseRD8.put28, BaseRD8.put29, fun a v h => h, trivial⟩
              · refine ⟨?_, ?_, ?_, ?_, ?_, ?_, ?_, ?_, trivial⟩
                all_goals
                  intro a w' hC hB hR
                  obtain ⟨u, rfl⟩ := hB
                  have HC := Lib.hid hC
                  clear hC
                  clear hK0
                · clear hR
                  refine if_yes (by kernel_rfl) ?_
                  unfold Oper.wp
                  go_simp
                  exact ⟨.pointer (some ⟨w.heap.size + 1, 1, none⟩), rfl, HC.out, trivial, rfl⟩
                · have h23 : u 23 = .pointer (some ⟨w.heap.size + 1, 1, none⟩) := hR ⟨0, .data⟩ (by simp) rfl
                  have hc : w'.cell? ⟨w.heap.size + 1, 1, none⟩ = some v1 := by rw [HC.out]; exact HCV.out
                  clear hR
                  simp only [h23]
                  clear h23
                  refine if_yes (by kernel_rfl) ?_
                  unfold Oper.wp
                  go_simp
                  exact ⟨v1, rfl, HC.out, trivial, rfl⟩
                · clear hR
                  refine if_yes (by kernel_rfl) ?_
                  unfold Oper.wp
                  go_simp
                  exact ⟨.pointer (some ⟨R, 0, none⟩), rfl, HC.out, trivial, rfl⟩
                · have h25 : u 25 = .pointer (some ⟨R, 0, none⟩) := hR ⟨2, .data⟩ (by simp) rfl
                  clear hR
                  simp only [h25]
                  clear h25
                  refine if_yes (by kernel_rfl) ?_
                  unfold Oper.wp
                  go_simp
                  rw [HC.out]
                  refine HDIE.out.mono ?_
                  rintro e w2 ⟨rfl, htu⟩
                  exact HDOOR.out _ w2 rfl rfl htu
                · have hF : False := hR ⟨3, .data⟩ (by simp) rfl
                  clear hR
                  refine if_yes (by kernel_rfl) ?_
                  exact hF.elim
                · have h24 : u 24 = v1 := hR ⟨1, .data⟩ (by simp) rfl
                  have hF : False := hR ⟨4, .data⟩ (by simp) rfl
                  clear hR
                  simp only [h24]
                  clear h24
                  refine if_yes (by kernel_rfl) ?_
                  exact hF.elim
                · have hF : False := hR ⟨3, .phase⟩ (by simp) rfl
                  clear hR
                  refine if_yes (by kernel_rfl) ?_
                  exact hF.elim
                · have hF : False := hR ⟨3, .phase⟩ (by simp) rfl
                  clear hR
                  refine if_yes (by kernel_rfl) ?_
                  exact hF.elim
              · intro a w' hC hB hR
                exact (hR 3 (by decide) : False).elim
          case rest =>
            rename World => wx1
            obtain ⟨rfl, k1, u1, HRW1⟩ := hcut
            clear HRW HLEN
            have HRW := HRW1
            clear HRW1
            have HLEN := HLEN2
            go_upto_region 9 with fail
            go_cut [21] from 21 to 44 (fun s21 wx => s21 = .int .i64 (t : Int) ∧ ∃ (q : Nat) (u : Value), Hid (RW w (gv M l Y j s r) R ps Y (6 * j + 10 * t + 4 + 3) q [v0, u1, u, v3] [l0, (l1 ++ [numAt (catP ps) (6 * j + 10 * t) 4]), (l2 ++ [numAt (catP ps) (6 * j + 10 * t + 4) 3]), l3] wx))
            case first =>
              by_cases hok : NumOk ps Y (6 * j + 10 * t + 4) 3 k1
              · obtain ⟨x, hx⟩ : ∃ x, numAt (catP ps) (6 * j + 10 * t + 4) 3 = x := ⟨_, rfl⟩
                have HX := Lib.hid hx
                have HCALL : Hid (∀ w', RW w (gv M l Y j s r) R ps Y (6 * j + 10 * t + 4) k1 [v0, u1, v2, v3] [l0, (l1 ++ [numAt (catP ps) (6 * j + 10 * t) 4]), l2, l3] w' → Calls Tryd.prog 41 #[.pointer (some ⟨R, 0, none⟩), .int .i64 3] w' fun e w2 => e = .returned (.int .i64 x) ∧ ∃ k', RW w (gv M l Y j s r) R ps Y (6 * j + 10 * t + 4 + 3) k' [v0, u1, v2, v3] [l0, (l1 ++ [numAt (catP ps) (6 * j + 10 * t) 4]), l2, l3] w2) := fun w' h => by
                  rw [← hx]
                  refine (step_yes w' R _ ps Y (6 * j + 10 * t + 4) 3 k1 (by decide) (by decide) HBD.out.2.2.1 HBD.out.2.2.2 h.2.1 hok).mono ?_
                  rintro e w2 ⟨rfl, ⟨k', hg⟩, ht⟩
                  exact ⟨rfl, k', h.turn ht hg⟩
                have d0 : wx1.cell? ⟨w.heap.size + 1, 2, none⟩ = some v2 := HRW.out.1.1.2.1.cell 2
                have d0b : wx1.drew.cell? ⟨w.heap.size + 1, 2, none⟩ = some v2 := HRW.out.drew.1.1.2.1.cell 2
                clear hx hok
                refine Code.wp_mono (fun _ _ _ h => NQS.to h) ?_
                go_region_law (first
                  | (go_simp; go_at_call 41; refine (HCALL.out _ HRW.out.drew).mono ?_; rintro e w' ⟨rfl, k', hrw⟩; have hd := hrw.1.1.2.1; have hbs := hrw.2.2.1.2; have hown : w'.ownsRow (w.heap.size + 3) 3 1 v2 t (intV l2) := (by have h2 := hrw.own 2 (by decide); have h3 : ([l0, (l1 ++ [numAt (catP ps) (6 * j + 10 * t) 4]), l2, l3].getD 2 []).length = t := HLEN.out; rw [h3] at h2; exact h2); have d0' : w'.cell? ⟨w.heap.size + 1, 2, none⟩ = some v2 := hd.cell 2; have d0a : (w'.alloc (.cells #[.int .i64 x] 3)).cell? ⟨w.heap.size + 1, 2, none⟩ = some v2 := (hd.alloc _).cell 2)
                  | (refine step_append_lies _ rfl (.tmp 31) (.tmp 34) 24 rfl (w.heap.size + 3) 3 i0 (.int .i64 0) 1 8 Tryd.underlying24 hi0 hz0 hz1 hz2 rfl (by decide) v2 t _ (by simp [Act.eval]) (by first | exact hown.alloc _ | exact (hown.alloc _).drew) ⟨w'.heap.size, 0, none⟩ 1 1 [.int .i64 x] (by simp [Act.eval]) rfl (fun k u hk => cells_newX w' #[.int .i64 x] 3 k u hk) (by intro u hu; simp at hu; subst hu; rfl) (by decide) (by unfold maxLen; omega) (by omega) (by simp; omega) _ rfl ?_; intro g cap w5 hown5 hg5 hat5 _; have hk5 := blk_grownS (hd.alloc (.cells #[.int .i64 x] 3)) hg5 (own_ne hown (by omega)); have d5 := hk5.cell 2; have f5 := hk5.free 2))
                all_goals
                  refine NQS.normal ?_
                  have hga : (w'.alloc (.cells #[.int .i64 x] 3)).grownBy w5 (v2).ownBlock := ⟨hg5.os, hg5.tape, hg5.output, hg5.size, hg5.block⟩
                  have HRW5 : Hid (RW w (gv M l Y j s r) R ps Y (6 * j + 10 * t + 4 + 3) k' [v0, u1, (.slice (some ⟨g, 0, none⟩) (t + 1) cap), v3] [l0, (l1 ++ [numAt (catP ps) (6 * j + 10 * t) 4]), (l2 ++ [x]), l3] (w5.setCell ⟨w.heap.size + 1, 2, none⟩ (.slice (some ⟨g, 0, none⟩) (t + 1) cap))) := hrw.store (i := 2) (by decide) HLEN.out hown5 hga (by rcases hat5 with h | h; exact Or.inl h; exact Or.inr (by simpa using h))
                  generalize w5.setCell ⟨w.heap.size + 1, 2, none⟩ (.slice (some ⟨g, 0, none⟩) (t + 1) cap) = w6 at HRW5 ⊢
                  clear hown5 hg5 hga hat5 hk5 d5 f5 d0 d0b d0' d0a hd hbs hown hrw HCALL
                  rw [← HX.out] at HRW5
                  go_wp2_with fail
                  go_meet
                  case rel => exact ⟨rfl, k', _, HRW5⟩
              · have HDIE : Hid (Calls Tryd.prog 41 #[.pointer (some ⟨R, 0, none⟩), .int .i64 3] wx1.drew (NumN R wx1.drew)) := step_no wx1.drew R _ ps Y (6 * j + 10 * t + 4) 3 k1 HBD.out.2.2.2 HRW.out.drew.2.1 hok
                have HNP : ¬ PagesOk ps M j K Y := no_pages hok (by have := HBD.out; omega) HKM.out.1
                have HCV : Hid (wx1.drew.cell? ⟨w.heap.size + 1, 2, none⟩ = some v2) := HRW.out.drew.1.1.2.1.cell 2
                have HDOOR : Hid (∀ tmps w2, tmps.getD 4 undef = .pointer (some ⟨w.heap.size + 1, 0, none⟩) → tmps.getD 5 undef = .pointer (some ⟨w.heap.size + 2, 0, none⟩) → Turns R wx1.drew w2 → bodyPostD Tryd.prog Tryd.f24 (ReadS M j K Y ps R w) (.panic snapP) ⟨tmps, [clo (w.heap.size + 1) (w.heap.size + 2)]⟩ w2) := fun tmps w2 t4 t5 ht => die_door HRW.out.drew ht HNP tmps t4 t5
                clear hok HNP
                rename_i K0 hK0
                refine wp_region_list3 (SV (vsRD9 R (w.heap.size + 1) v2) [33]) (BaseRD9 R w.heap.size (w.heap.size + 1) (w.heap.size + 2)) (fun w' => w' = wx1.drew) (fun _ _ => True) (RV (vsRD9 R (w.heap.size + 1) v2) (fun _ _ _ => False)) rfl (by kernel_rfl) (RV.ext (no_specialL _)) ?_ (rfl) (BaseRD9.of _ (by kernel_rfl)) ?_ ?_
                · exact ⟨BaseRD9.put30, BaseRD9.put31, BaseRD9.put32, BaseRD9.put33, BaseRD9.put34, BaseRD9.put35, BaseRD9.put36, fun a v h => h, trivial⟩
                · refine ⟨?_, ?_, ?_, ?_, ?_, ?_, ?_, ?_, trivial⟩
                  all_goals
                    intro a w' hC hB hR
                    obtain ⟨u, rfl⟩ := hB
                    have HC := Lib.hid hC
                    clear hC
                    clear hK0
                  · clear hR
                    refine if_yes (by kernel_rfl) ?_
                    unfold Oper.wp
                    go_simp
                    exact ⟨.pointer (some ⟨w.heap.size + 1, 2, none⟩), rfl, HC.out, trivial, rfl⟩
                  · have h30 : u 30 = .pointer (some ⟨w.heap.size + 1, 2, none⟩) := hR ⟨0, .data⟩ (by simp) rfl
                    have hc : w'.cell? ⟨w.heap.size + 1, 2, none⟩ = some v2 := by rw [HC.out]; exact HCV.out
                    clear hR
                    simp only [h30]
                    clear h30
                    refine if_yes (by kernel_rfl) ?_
                    unfold Oper.wp
                    go_simp
                    exact ⟨v2, rfl, HC.out, trivial, rfl⟩
                  · clear hR
                    refine if_yes (by kernel_rfl) ?_
                    unfold Oper.wp
                    go_simp
                    exact ⟨.pointer (some ⟨R, 0, none⟩), rfl, HC.out, trivial, rfl⟩
                  · have h32 : u 32 = .pointer (some ⟨R, 0, none⟩) := hR ⟨2, .data⟩ (by simp) rfl
                    clear hR
                    simp only [h32]
                    clear h32
                    refine if_yes (by kernel_rfl) ?_
                    unfold Oper.wp
                    go_simp
                    rw [HC.out]
                    refine HDIE.out.mono ?_
                    rintro e w2 ⟨rfl, htu⟩
                    exact HDOOR.out _ w2 rfl rfl htu
                  · have hF : False := hR ⟨3, .data⟩ (by simp) rfl
                    clear hR
                    refine if_yes (by kernel_rfl) ?_
                    exact hF.elim
                  · have h31 : u 31 = v2 := hR ⟨1, .data⟩ (by simp) rfl
                    have hF : False := hR ⟨4, .data⟩ (by simp) rfl
                    clear hR
                    simp only [h31]
                    clear h31
                    refine if_yes (by kernel_rfl) ?_
                    exact hF.elim
                  · have hF : False := hR ⟨3, .phase⟩ (by simp) rfl
                    clear hR
                    refine if_yes (by kernel_rfl) ?_
                    exact hF.elim
                  · have hF : False := hR ⟨3, .phase⟩ (by simp) rfl
                    clear hR
                    refine if_yes (by kernel_rfl) ?_
                    exact hF.elim
                · intro a w' hC hB hR
                  exact (hR 3 (by decide) : False).elim
            case rest =>
              rename World => wx2
              obtain ⟨rfl, k2, u2, HRW2⟩ := hcut
              clear HRW HLEN
              have HRW := HRW2
              clear HRW2
              have HLEN := HLEN3
              go_upto_region 10 with fail
              by_cases hok : NumOk ps Y (6 * j + 10 * t + 4 + 3) 3 k2
              · obtain ⟨x, hx⟩ : ∃ x, numAt (catP ps) (6 * j + 10 * t + 4 + 3) 3 = x := ⟨_, rfl⟩
                have HX := Lib.hid hx
                have HCALL : Hid (∀ w', RW w (gv M l Y j s r) R ps Y (6 * j + 10 * t + 4 + 3) k2 [v0, u1, u2, v3] [l0, (l1 ++ [numAt (catP ps) (6 * j + 10 * t) 4]), (l2 ++ [numAt (catP ps) (6 * j + 10 * t + 4) 3]), l3] w' → Calls Tryd.prog 41 #[.pointer (some ⟨R, 0, none⟩), .int .i64 3] w' fun e w2 => e = .returned (.int .i64 x) ∧ ∃ k', RW w (gv M l Y j s r) R ps Y (6 * j + 10 * t + 4 + 3 + 3) k' [v0, u1, u2, v3] [l0, (l1 ++ [numAt (catP ps) (6 * j + 10 * t) 4]), (l2 ++ [numAt (catP ps) (6 * j + 10 * t + 4) 3]), l3] w2) := fun w' h => by
                  rw [← hx]
                  refine (step_yes w' R _ ps Y (6 * j + 10 * t + 4 + 3) 3 k2 (by decide) (by decide) HBD.out.2.2.1 HBD.out.2.2.2 h.2.1 hok).mono ?_
                  rintro e w2 ⟨rfl, ⟨k', hg⟩, ht⟩
                  exact ⟨rfl, k', h.turn ht hg⟩
                have d0 : wx2.cell? ⟨w.heap.size + 1, 3, none⟩ = some v3 := HRW.out.1.1.2.1.cell 3
                have d0b : wx2.drew.cell? ⟨w.heap.size + 1, 3, none⟩ = some v3 := HRW.out.drew.1.1.2.1.cell 3
                clear hx hok
                refine Code.wp_mono (fun _ _ _ h => NQS.to h) ?_
                go_region_law (first
                  | (go_simp; go_at_call 41; refine (HCALL.out _ HRW.out.drew).mono ?_; rintro e w' ⟨rfl, k', hrw⟩; have hd := hrw.1.1.2.1; have hbs := hrw.2.2.1.2; have hown : w'.ownsRow (w.heap.size + 3) 3 1 v3 t (intV l3) := (by have h2 := hrw.own 3 (by decide); have h3 : ([l0, (l1 ++ [numAt (catP ps) (6 * j + 10 * t) 4]), (l2 ++ [numAt (catP ps) (6 * j + 10 * t + 4) 3]), l3].getD 3 []).length = t := HLEN.out; rw [h3] at h2; exact h2); have d0' : w'.cell? ⟨w.heap.size + 1, 3, none⟩ = some v3 := hd.cell 3; have d0a : (w'.alloc (.cells #[.int .i64 x] 3)).cell? ⟨w.heap.size + 1, 3, none⟩ = some v3 := (hd.alloc _).cell 3)
                  | (refine step_append_lies _ rfl (.tmp 38) (.tmp 41) 24 rfl (w.heap.size + 3) 3 i0 (.int .i64 0) 1 8 Tryd.underlying24 hi0 hz0 hz1 hz2 rfl (by decide) v3 t _ (by simp [Act.eval]) (by first | exact hown.alloc _ | exact (hown.alloc _).drew) ⟨w'.heap.size, 0, none⟩ 1 1 [.int .i64 x] (by simp [Act.eval]) rfl (fun k u hk => cells_newX w' #[.int .i64 x] 3 k u hk) (by intro u hu; simp at hu; subst hu; rfl) (by decide) (by unfold maxLen; omega) (by omega) (by simp; omega) _ rfl ?_; intro g cap w5 hown5 hg5 hat5 _; have hk5 := blk_grownS (hd.alloc (.cells #[.int .i64 x] 3)) hg5 (own_ne hown (by omega)); have d5 := hk5.cell 3; have f5 := hk5.free 3))
                all_goals
                  refine NQS.normal ?_
                  have hga : (w'.alloc (.cells #[.int .i64 x] 3)).grownBy w5 (v3).ownBlock := ⟨hg5.os, hg5.tape, hg5.output, hg5.size, hg5.block⟩
                  have HRW5 : Hid (RW w (gv M l Y j s r) R ps Y (6 * j + 10 * t + 4 + 3 + 3) k' [v0, u1, u2, (.slice (some ⟨g, 0, none⟩) (t + 1) cap)] [l0, (l1 ++ [numAt (catP ps) (6 * j + 10 * t) 4]), (l2 ++ [numAt (catP ps) (6 * j + 10 * t + 4) 3]), (l3 ++ [x])] (w5.setCell ⟨w.heap.size + 1, 3, none⟩ (.slice (some ⟨g, 0, none⟩) (t + 1) cap))) := hrw.store (i := 3) (by decide) HLEN.out hown5 hga (by rcases hat5 with h | h; exact Or.inl h; exact Or.inr (by simpa using h))
                  generalize w5.setCell ⟨w.heap.size + 1, 3, none⟩ (.slice (some ⟨g, 0, none⟩) (t + 1) cap) = w6 at HRW5 ⊢
                  clear hown5 hg5 hga hat5 hk5 d5 f5 d0 d0b d0' d0a hd hbs hown hrw HCALL
                  rw [← HX.out] at HRW5
                  go_wp2_with fail
                  go_roundw
                  case rel =>
                    refine ⟨t + 1, k', u1, u2, .slice (some ⟨g, 0, none⟩) (t + 1) cap, by omega, by go_num, ?_⟩
                    simp only [List.range_succ, List.map_append, List.map_cons, List.map_nil]
                    rw [HL.out.1, HL.out.2.1, HL.out.2.2]
                    have e : 6 * j + 10 * (t + 1) = 6 * j + 10 * t + 4 + 3 + 3 := by omega
                    rw [e]
                    exact HRW5
                  case measure => simp [intOf]; omega
              · have HDIE : Hid (Calls Tryd.prog 41 #[.pointer (some ⟨R, 0, none⟩), .int .i64 3] wx2.drew (NumN R wx2.drew)) := step_no wx2.drew R _ ps Y (6 * j + 10 * t + 4 + 3) 3 k2 HBD.out.2.2.2 HRW.out.drew.2.1 hok
                have HNP : ¬ PagesOk ps M j K Y := no_pages hok (by have := HBD.out; omega) HKM.out.1
                have HCV : Hid (wx2.drew.cell? ⟨w.heap.size + 1, 3, none⟩ = some v3) := HRW.out.drew.1.1.2.1.cell 3
                have HDOOR : Hid (∀ tmps w2, tmps.getD 4 undef = .pointer (some ⟨w.heap.size + 1, 0, none⟩) → tmps.getD 5 undef = .pointer (some ⟨w.heap.size + 2, 0, none⟩) → Turns R wx2.drew w2 → bodyPostD Tryd.prog Tryd.f24 (ReadS M j K Y ps R w) (.panic snapP) ⟨tmps, [clo (w.heap.size + 1) (w.heap.size + 2)]⟩ w2) := fun tmps w2 t4 t5 ht => die_door HRW.out.drew ht HNP tmps t4 t5
                clear hok HNP
                rename_i K0 hK0
                refine wp_region_list3 (SV (vsRD10 R (w.heap.size + 1) v3) [40]) (BaseRD10 R w.heap.size (w.heap.size + 1) (w.heap.size + 2)) (fun w' => w' = wx2.drew) (fun _ _ => True) (RV (vsRD10 R (w.heap.size + 1) v3) (fun _ _ _ => False)) rfl (by kernel_rfl) (RV.ext (no_specialL _)) ?_ (rfl) (BaseRD10.of _ (by kernel_rfl)) ?_ ?_
                · exact ⟨BaseRD10.put37, BaseRD10.put38, BaseRD10.put39, BaseRD10.put40, BaseRD10.put41, BaseRD10.put42, BaseRD10.put43, fun a v h => h, trivial⟩
                · refine ⟨?_, ?_, ?_, ?_, ?_, ?_, ?_, ?_, trivial⟩
                  all_goals
                    intro a w' hC hB hR
                    obtain ⟨u, rfl⟩ := hB
                    have HC := Lib.hid hC
                    clear hC
                    clear hK0
                  · clear hR
                    refine if_yes (by kernel_rfl) ?_
                    unfold Oper.wp
                    go_simp
                    exact ⟨.pointer (some ⟨w.heap.size + 1, 3, none⟩), rfl, HC.out, trivial, rfl⟩
                  · have h37 : u 37 = .pointer (some ⟨w.heap.size + 1, 3, none⟩) := hR ⟨0, .data⟩ (by simp) rfl
                    have hc : w'.cell? ⟨w.heap.size + 1, 3, none⟩ = some v3 := by rw [HC.out]; exact HCV.out
                    clear hR
                    simp only [h37]
                    clear h37
                    refine if_yes (by kernel_rfl) ?_
                    unfold Oper.wp
                    go_simp
                    exact ⟨v3, rfl, HC.out, trivial, rfl⟩
                  · clear hR
                    refine if_yes (by kernel_rfl) ?_
                    unfold Oper.wp
                    go_simp
                    exact ⟨.pointer (some ⟨R, 0, none⟩), rfl, HC.out, trivial, rfl⟩
                  · have h39 : u 39 = .pointer (some ⟨R, 0, none⟩) := hR ⟨2, .data⟩ (by simp) rfl
                    clear hR
                    simp only [h39]
                    clear h39
                    refine if_yes (by kernel_rfl) ?_
                    unfold Oper.wp
                    go_simp
                    rw [HC.out]
                    refine HDIE.out.mono ?_
                    rintro e w2 ⟨rfl, htu⟩
                    exact HDOOR.out _ w2 rfl rfl htu
                  · have hF : False := hR ⟨3, .data⟩ (by simp) rfl
                    clear hR
                    refine if_yes (by kernel_rfl) ?_
                    exact hF.elim
                  · have h38 : u 38 = v3 := hR ⟨1, .data⟩ (by simp) rfl
                    have hF : False := hR ⟨4, .data⟩ (by simp) rfl
                    clear hR
                    simp only [h38]
                    clear h38
                    refine if_yes (by kernel_rfl) ?_
                    exact hF.elim
                  · have hF : False := hR ⟨3, .phase⟩ (by simp) rfl
                    clear hR
                    refine if_yes (by kernel_rfl) ?_
                    exact hF.elim
                  · have hF : False := hR ⟨3, .phase⟩ (by simp) rfl
                    clear hR
                    refine if_yes (by kernel_rfl) ?_
                    exact hF.elim
                · intro a w' hC hB hR
                  exact (hR 3 (by decide) : False).elim
        · obtain rfl : t = M := by omega
          have hltz : ¬ (t : Int) < (t : Int) := by omega
          clear hlt HRW7 HLEN1 HLEN2 HLEN3
          have hEZ : ((catP (ps.take k)).extract (6 * j + 10 * t) (k * Y)).size ≤ 1000000 := by have h := HRW.out.2.1.1.1; rw [ByteArray.size_extract]; have := HBD.out; omega
          have HEND := Lib.hid (sn_end wr R _ _ Y _ hEZ HRW.out.2.1.2)
          have HPE := Lib.hid (end_pages HRW.out.2.1.1 HKM.out.1 HKM.out.2)
          clear hEZ
          by_cases hp : PagesOk ps t j K Y
          · have HP := Lib.hid hp
            have HE2 := Lib.hid (HPE.out.1 hp)
            clear hp HPE
            go_wp2_with fail
            refine HEND.out.mono ?_
            rintro e w8 ⟨he, _, rfl⟩
            obtain rfl := he HE2.out
            clear he HEND HE2
            have HS : Hid (Blk wr (w.heap.size + 1) #[v0, v1, v2, v3] 26) := HRW.out.1.1.2.1
            have HF := Lib.hid HRW.out.1.2.2
            have HE3 : Hid (Blk (wr.setRow (w.heap.size + 1) #[v0, v1, v2, v3]) (w.heap.size + 2) #[.int .i64 0] 29) := HRW.out.1.1.2.2.put_other (by omega) _
            have c5 := HE3.out.cell 0
            have f5 := HE3.out.free 0
            go_wp2_with (first
              | (refine wpList_load_row rfl 26 (.tmp 4) rfl (w.heap.size + 1) rfl 26 #[v0, v1, v2, v3] (0, 0) _ HS.out Tryd.underlying26 rfl size_state ?_)
              | (refine wpList_store_row rfl 26 (.tmp 4) (.tmp 47) rfl (w.heap.size + 1) #[v0, v1, v2, v3] rfl rfl 26 #[v0, v1, v2, v3] HS.out size_state rfl HF.out.one ?_))
            refine door_ret _ _ (w.heap.size + 1) (w.heap.size + 2) #[v0, v1, v2, v3] (.int .i64 0) rfl rfl rfl ((HS.out.put _).set_other (by omega) _ _) (HE3.out.set 0 _ rfl) ⟨fun _ => ⟨_, _, _, _, rfl, ?_⟩, fun h => absurd HP.out h, ?_⟩
            · have h9 := ((HF.out.setRow (b := w.heap.size + 1) (by omega) #[v0, v1, v2, v3]).setCell ⟨w.heap.size + 2, 0, none⟩ (by show w.heap.size + 2 < _; omega) (.int .i64 0)).mono (Nat.le_add_right w.heap.size 3)
              rw [← HL0.out, ← HL.out.1, ← HL.out.2.1, ← HL.out.2.2] at h9
              exact h9
            · exact read_end HRW.out _ _
          · have HP := Lib.hid hp
            have HE2 := Lib.hid (fun h => hp (HPE.out.2 h))
            clear HPE
            go_wp2_with fail
            refine HEND.out.mono ?_
            rintro e w8 ⟨_, he, rfl⟩
            obtain rfl := he HE2.out
            exact die_door HRW.out (Turns.refl R _) hp _ rfl rfl

end Go.Proofs.YtidakannaephoaaDoor
