/- Package sheet, walked: take. -/
import Derived.Test.YtklbmlnghindjaaShC1
import Derived.Test.YtklbmlnghindjaaShR2
import Derived.Laws.MakeOwn
namespace Go.Proofs.Ytklbmlnghindjaa
set_option maxRecDepth 100000
open Go.RowKit

/-- cells of records, one of them set -/
theorem flatX_set : ∀ (l : List Rc) (i : Nat) (x : Rc), i < l.length → (((flatX l).set (i * 3) (.int .i64 x.k)).set (i * 3 + 1) (.int .i64 x.a)).set (i * 3 + 2) (.int .i64 x.b) = flatX (l.set i x)
  | [], i, x, h => absurd h (Nat.not_lt_zero i)
  | y :: r, 0, x, _ => rfl
  | y :: r, i + 1, x, h => by
    have ih := flatX_set r i x (by simpa using h)
    have e : flatX (y :: r) = .int .i64 y.k :: .int .i64 y.a :: .int .i64 y.b :: flatX r := rfl
    have e2 : flatX ((y :: r).set (i + 1) x) = .int .i64 y.k :: .int .i64 y.a :: .int .i64 y.b :: flatX (r.set i x) := rfl
    rw [e, e2, ← ih, show (i + 1) * 3 = i * 3 + 3 by omega]
    rfl
theorem flatX_replicate (n : Nat) : ∀ u ∈ flatX (List.replicate n ⟨0, 0, 0⟩), u = .int .i64 0 := by
  intro u hu
  unfold flatX at hu
  rw [List.mem_flatMap] at hu
  obtain ⟨x, hx, h⟩ := hu
  rw [List.eq_of_mem_replicate hx] at h
  simp [Rc.cells] at h
  exact h
theorem made_recs (n : Nat) : madeCells (ra 0 0 0) (n * 3) = (flatX (List.replicate n ⟨0, 0, 0⟩)).toArray := by
  apply Array.ext
  · rw [size_madeCells, List.size_toArray, flatX_len, List.length_replicate]
  · intro j h1 h2
    have hR := flatX_replicate n ((flatX (List.replicate n ⟨0, 0, 0⟩)).toArray[j]) (by simp)
    rw [hR]
    simp only [madeCells, Array.getElem_map, Array.getElem_range]
    have h3 : ∀ k, k < 3 → (ra 0 0 0)[k]! = .int .i64 0 := fun k hk => by
      match k, hk with
      | 0, _ => rfl
      | 1, _ => rfl
      | 2, _ => rfl
    exact h3 _ (Nat.mod_lt _ (by decide))
theorem run_make_recs (n : Nat) (hn : n ≤ 1000) (w : World) : Sem.run Try.prog (Instr.makeSlice 22 (.int .i64 (n : Int)) (.int .i64 (n : Int))) w = .ok (.slice (some ⟨w.heap.size, 0, none⟩) n n) (w.alloc (.cells (flatX (List.replicate n ⟨0, 0, 0⟩)).toArray 33)) := by
  obtain ⟨i0, hi, hz0, hz1, hz2⟩ := info_partsX infoRec
  have h := run_make (P := Try.prog) w 22 33 i0 _ Try.underlying22 hi hz0 .i64 .i64 (n : Int) (n : Int) (by omega) (Int.le_refl _) (by rw [hz2]; omega) (by omega)
  rw [hz1] at h
  simp only [Int.toNat_natCast, Value.cells, made_recs] at h
  exact h
/-- a block of records, whole, one of them stored -/
theorem blk_setX {w : World} {g : Nat} {l : List Rc} {t : TypeId} (h : Blk w g (flatX l).toArray t) (i : Nat) (x : Rc) (hi : i < l.length) : Blk (w.setCells g (i * 3) x.cells) g (flatX (l.set i x)).toArray t := by
  have e : w.setCells g (i * 3) x.cells = ((w.setCell ⟨g, i * 3, none⟩ (.int .i64 x.k)).setCell ⟨g, i * 3 + 1, none⟩ (.int .i64 x.a)).setCell ⟨g, i * 3 + 2, none⟩ (.int .i64 x.b) := rfl
  rw [e]
  have h1 := h.set (i * 3) (.int .i64 x.k) rfl
  have h2 := h1.set (i * 3 + 1) (.int .i64 x.a) rfl
  refine h2.set (i * 3 + 2) (.int .i64 x.b) ?_
  simp only [List.setIfInBounds_toArray]
  rw [flatX_set l i x hi]
theorem blk_thereX {w : World} {g : Nat} {l : List Rc} {t : TypeId} (h : Blk w g (flatX l).toArray t) (i : Nat) (hi : i < l.length) : w.there g (i * 3) 3 := by
  intro j hj
  refine ⟨?_, h.free _⟩
  rw [h.cell, List.getElem?_toArray, flatX_get l i j hi hj]
  have : j < (l[i].cells).length := hj
  rw [List.getElem?_eq_getElem this]; rfl
theorem blk_ownX {w : World} {g B : Nat} {l : List Rc} (h : Blk w g (flatX l).toArray 33) (hB : B ≤ g) (hl : l.length ≤ 1000) : w.ownsRow B 33 3 (.slice (some ⟨g, 0, none⟩) l.length l.length) l.length (flatX l) :=
  ⟨flatX_len l, .inr ⟨g, l.length, (flatX l).toArray, rfl, hB, h, Nat.le_refl _, by unfold maxLen; omega, by rw [List.size_toArray, flatX_len], by rw [List.toList_toArray]; exact List.take_of_length_le (Nat.le_of_eq (flatX_len l))⟩⟩
theorem below_setCellsX {B : Nat} {a : World} (g : Nat) (hB : B ≤ g) : ∀ (vs : List Value) (o : Nat) (w : World), Below B a w → Below B a (w.setCells g o vs)
  | [], _, _, h => h
  | v :: r, o, w, h => by
    rw [World.setCells]
    refine below_setCellsX (a := a) g hB r (o + 1) _ ?_
    obtain ⟨h1, h2, h3, h4, h5⟩ := h
    exact ⟨h1, h2, h3, by rw [World.size_setCell]; exact h4, fun k hk => (Below.heap_setCell _ _ _ _ (by show k ≠ g; omega)).trans (h5 k hk)⟩

/-- the text of the i-th record of several, one behind another -/
def partT (s : ByteArray) (i : Nat) : ByteArray := s.extract (9 * i) (9 * i + 9)
def recP (s : ByteArray) (i : Nat) : Rc := ⟨kR (partT s i), aR (partT s i), bR (partT s i)⟩
def fillX (s : ByteArray) (n i : Nat) : List Rc := (List.range n).map fun j => if j < i then recP s j else ⟨0, 0, 0⟩
theorem fillX_len (s : ByteArray) (n i : Nat) : (fillX s n i).length = n := by simp [fillX]
theorem fillX_zero (s : ByteArray) (n : Nat) : fillX s n 0 = List.replicate n ⟨0, 0, 0⟩ := by
  apply List.ext_getElem
  · simp [fillX]
  · intro j h1 h2; simp [fillX]
theorem fillX_all (s : ByteArray) (n : Nat) : fillX s n n = (List.range n).map (recP s) := by
  apply List.ext_getElem
  · simp [fillX]
  · intro j h1 h2
    simp [fillX] at h1 ⊢
    intro h; omega
theorem fillX_set (s : ByteArray) (n i : Nat) (_ : i < n) : (fillX s n i).set i (recP s i) = fillX s n (i + 1) := by
  apply List.ext_getElem
  · simp [fillX]
  · intro j h1 h2
    simp only [fillX, List.getElem_set, List.getElem_map, List.getElem_range]
    by_cases h : i = j
    · subst h; simp
    · simp only [h, if_false]
      by_cases h3 : j < i
      · rw [if_pos h3, if_pos (by omega)]
      · rw [if_neg h3, if_neg (by omega)]

/-- what take answers -/
def TakeLT (s : ByteArray) (n : Nat) (w : World) (e : Ending) (w' : World) : Prop :=
  ((∀ i, i < n → OkR (partT s i)) → ∃ v, e = .returned (.tuple #[v, .int .i64 0]) ∧ w'.ownsRow w.heap.size 33 3 v n (flatX ((List.range n).map (recP s))))
  ∧ (¬ (∀ i, i < n → OkR (partT s i)) → e = .returned (.tuple #[.slice none 0 0, .int .i64 3])) ∧ Below w.heap.size w w'

end Go.Proofs.Ytklbmlnghindjaa
