/- Pages of records: what the document asks of Hold, Pack and Unpack. -/
import Derived.Test.YtklbmlnghindjaaDoorRcM
import Derived.Test.YtklbmlnghindjaaDoorBs
import Derived.Deep.MidRow
namespace Go.Proofs.YtklbmlnghindjaaDoor
set_option maxRecDepth 100000
open Go.RowKit

/-- a record -/
structure Rc where
  k : Int
  a : Int
  b : Int
deriving DecidableEq
def Rc.cells (x : Rc) : List Value := [.int .i64 x.k, .int .i64 x.a, .int .i64 x.b]
theorem Rc.cells_len (x : Rc) : x.cells.length = 3 := rfl
theorem Rc.arr (x : Rc) : x.cells.toArray = ra x.k x.a x.b := rfl
def MayX (x : Rc) : Prop := MayR x.k x.a x.b
instance (x : Rc) : Decidable (MayX x) := by unfold MayX; infer_instance
def Rc.txt (x : Rc) : ByteArray := recS x.k x.a x.b
/-- the cells of records, one behind the other -/
def flatX (l : List Rc) : List Value := l.flatMap Rc.cells
theorem flatX_len (l : List Rc) : (flatX l).length = l.length * 3 := by
  unfold flatX
  induction l with
  | nil => rfl
  | cons x r ih => rw [List.flatMap_cons, List.length_append, ih, Rc.cells_len, List.length_cons]; omega
theorem flatX_app (l : List Rc) (x : Rc) : flatX (l ++ [x]) = flatX l ++ x.cells := by unfold flatX; rw [List.flatMap_append]; simp
theorem flatX_get : ∀ (l : List Rc) (i j : Nat) (hi : i < l.length), j < 3 → (flatX l)[i * 3 + j]? = (l[i].cells)[j]?
  | [], i, j, hi, hj => absurd hi (Nat.not_lt_zero i)
  | x :: r, 0, j, hi, hj => by
    unfold flatX
    rw [List.flatMap_cons, List.getElem?_append_left (by rw [Rc.cells_len]; omega)]
    simp
  | x :: r, i + 1, j, hi, hj => by
    unfold flatX
    rw [List.flatMap_cons, List.getElem?_append_right (by rw [Rc.cells_len]; omega), Rc.cells_len, show (i + 1) * 3 + j - 3 = i * 3 + j by omega]
    exact flatX_get r i j (by simpa using hi) hj
/-- a slice of records, wherever it lies -/
def XsAt (w : World) (oa : Option Addr) (l : List Rc) : Prop := l ≠ [] → ∃ b off, oa = some ⟨b, off, none⟩ ∧ b < w.heap.size ∧ ∀ i (hi : i < l.length), w.rangeAt b (off + i * 3) (l[i].cells)
theorem XsAt.below {w w' : World} {oa : Option Addr} {l : List Rc} (h : XsAt w oa l) (hb : Below w.heap.size w w') : XsAt w' oa l := by
  intro hl
  obtain ⟨b, off, ho, hlt, hc⟩ := h hl
  exact ⟨b, off, ho, Nat.lt_of_lt_of_le hlt hb.size, fun i hi j v hj => by rw [World.cell?_of_block (w := w) (hb.block b hlt)]; exact hc i hi j v hj⟩
theorem XsAt.nil (w : World) (oa : Option Addr) : XsAt w oa [] := fun h => absurd rfl h

/-- how many records a page of n bytes holds -/
def holdN (n : Int) : Nat := if 16 ≤ n ∧ n ≤ 256 then ((n - 1) / 9).toNat else 0
theorem holdN_le (n : Int) : holdN n ≤ 28 := by unfold holdN; split <;> omega
theorem holdN_in {n : Int} (h : 16 ≤ n ∧ n ≤ 256) : holdN n = ((n - 1) / 9).toNat := if_pos h
theorem holdN_out {n : Int} (h : ¬ (16 ≤ n ∧ n ≤ 256)) : holdN n = 0 := if_neg h
theorem holdN_pos {n : Int} (h : 16 ≤ n ∧ n ≤ 256) : 1 ≤ holdN n ∧ 1 + 9 * (holdN n : Int) ≤ n := by rw [holdN_in h]; omega
theorem holdN_zero (n : Int) : holdN n = 0 ↔ ¬ (16 ≤ n ∧ n ≤ 256) := by
  unfold holdN
  split <;> omega

/-- the text of the i-th record of a page -/
def secT (s : ByteArray) (i : Nat) : ByteArray := s.extract (1 + 9 * i) (10 + 9 * i)
def recAt (s : ByteArray) (i : Nat) : Rc := ⟨kR (secT s i), aR (secT s i), bR (secT s i)⟩
/-- a page that tells records -/
structure PageOk (s : ByteArray) : Prop where
  size : 16 ≤ (s.size : Int) ∧ (s.size : Int) ≤ 256
  many : 1 ≤ byteT s 0 ∧ byteT s 0 ≤ holdN s.size
  each : ∀ i : Nat, (i : Int) < byteT s 0 → OkR (secT s i)
  rest : ∀ i : Nat, 1 + 9 * byteT s 0 ≤ (i : Int) → i < s.size → byteT s i = 0
/-- its records -/
def recsT (s : ByteArray) : List Rc := (List.range (byteT s 0).toNat).map (recAt s)
theorem recsT_len (s : ByteArray) : (recsT s).length = (byteT s 0).toNat := by simp [recsT]
theorem recsT_get (s : ByteArray) (i : Nat) (h : i < (recsT s).length) : (recsT s)[i] = recAt s i := by simp [recsT]
/-- why there are none -/
def unpE (s : ByteArray) : Int := if 16 ≤ (s.size : Int) ∧ (s.size : Int) ≤ 256 then 3 else 2

end Go.Proofs.YtklbmlnghindjaaDoor
