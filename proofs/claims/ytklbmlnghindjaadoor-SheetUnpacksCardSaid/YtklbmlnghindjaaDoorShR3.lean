/- The reference of layer 12, walked: Pack. -/
import Derived.Test.YtklbmlnghindjaaDoorShR2
import Derived.Deep.DeepCutAuto
import Derived.Deep.CutBlock
namespace Go.Proofs.YtklbmlnghindjaaDoor
set_option maxRecDepth 100000
open Go.RowKit

/-- the bytes of records, behind how many there are -/
def accL (k : Nat) (l : List Rc) : List UInt8 := UInt8.ofNat k :: l.flatMap (fun x => bs x.txt)
def accT (k : Nat) (l : List Rc) : ByteArray := ⟨(accL k l).toArray⟩
theorem txt_len (x : Rc) : (bs x.txt).length = 9 := by rw [bs_length]; exact recS_size _ _ _
theorem accL_len (k : Nat) (l : List Rc) : (accL k l).length = 1 + 9 * l.length := by
  unfold accL
  rw [List.length_cons]
  induction l with
  | nil => rfl
  | cons x r ih => rw [List.flatMap_cons, List.length_append, txt_len, List.length_cons]; omega
theorem accT_size (k : Nat) (l : List Rc) : (accT k l).size = 1 + 9 * l.length := accL_len k l
theorem accT_app (k : Nat) (l : List Rc) (x : Rc) : accT k (l ++ [x]) = accT k l ++ x.txt := by
  apply bytes_eq
  rw [ByteArray.data_append, Array.toList_append]
  show accL k (l ++ [x]) = accL k l ++ bs x.txt
  unfold accL
  rw [List.flatMap_append]
  simp
/-- a page of n bytes that holds these records -/
def padT (s : ByteArray) (j : Nat) : ByteArray := ⟨(bs s ++ List.replicate j 0).toArray⟩
theorem padT_zero (s : ByteArray) : padT s 0 = s := by apply bytes_eq; simp [padT, bs]
theorem padT_size (s : ByteArray) (j : Nat) : (padT s j).size = s.size + j := by show (bs s ++ List.replicate j 0).length = _; rw [List.length_append, bs_length, List.length_replicate]
theorem padT_step (s : ByteArray) (j : Nat) : padT s (j + 1) = padT s j ++ ⟨#[0]⟩ := by
  apply bytes_eq
  rw [ByteArray.data_append, Array.toList_append]
  show bs s ++ List.replicate (j + 1) 0 = (bs s ++ List.replicate j 0) ++ [0]
  rw [List.replicate_succ', List.append_assoc]
def pageX (n : Nat) (l : List Rc) : ByteArray := padT (accT l.length l) (n - (1 + 9 * l.length))
/-- the records of page i, of h each -/
def partX (h : Nat) (l : List Rc) (i : Nat) : List Rc := (l.drop (i * h)).take h
/-- how many pages -/
def pagesN (h : Nat) (l : List Rc) : Nat := (l.length + h - 1) / h
def pagesX (n h : Nat) (l : List Rc) : List ByteArray := (List.range (pagesN h l)).map fun i => pageX n (partX h l i)
def strV (l : List ByteArray) : List Value := l.map Value.string

theorem conv_one (c : Int) (w : World) : Sem.run Tryd.prog (convert 56 9 (.slice (some ⟨w.heap.size, 0, none⟩) 1 1)) (w.alloc (.cells #[.int .u8 c] 5)) = .ok (.string ⟨#[UInt8.ofNat c.toNat]⟩) (w.alloc (.cells #[.int .u8 c] 5)) := by
  have h : BytesAt (w.alloc (.cells #[.int .u8 c] 5)) w.heap.size [c] := by
    intro i hi
    obtain rfl : i = 0 := by simpa using hi
    rw [World.cell?_alloc_new]; rfl
  rw [h.conv Tryd.underlying56 Tryd.underlying5 Tryd.underlying9 1 1 rfl]
  rfl

theorem flat_take (xs : List Rc) (j : Nat) (h : j < xs.length) : xs.take (j + 1) = xs.take j ++ [xs[j]] := by rw [List.take_add_one, List.getElem?_eq_getElem h]; rfl
theorem partX_at (h : Nat) (l : List Rc) (p j : Nat) (hj : j < (partX h l p).length) : ∃ hx : p * h + j < l.length, (partX h l p)[j] = l[p * h + j] := by
  unfold partX at hj ⊢
  rw [List.length_take, List.length_drop] at hj
  exact ⟨by omega, by rw [List.getElem_take, List.getElem_drop]⟩
theorem pagesN_step {h len p : Nat} (h0 : 0 < h) (hp : p * h < len) : p < (len + h - 1) / h := by
  have h1 : (p + 1) * h ≤ len + h - 1 := by rw [Nat.add_mul]; omega
  exact (Nat.le_div_iff_mul_le h0).2 h1
theorem pagesN_end {h len p : Nat} (h0 : 0 < h) (h1 : len ≤ p * h) (h2 : p = 0 ∨ (p - 1) * h < len) : p = (len + h - 1) / h := by
  rcases h2 with rfl | h2
  · obtain rfl : len = 0 := by omega
    symm; exact Nat.div_eq_of_lt (by omega)
  · obtain ⟨q, rfl⟩ : ∃ q, p = q + 1 := ⟨p - 1, by
      rcases Nat.eq_zero_or_pos p with h3 | h3
      · subst h3; simp at h1; omega
      · omega⟩
    rw [Nat.add_sub_cancel] at h2
    rw [Nat.add_mul] at h1
    have h3 : (q + 1) * h ≤ len + h - 1 := by rw [Nat.add_mul]; omega
    have h4 : len + h - 1 < (q + 2) * h := by rw [Nat.add_mul]; omega
    have h5 := (Nat.le_div_iff_mul_le h0).2 h3
    have h6 := (Nat.div_lt_iff_lt_mul h0).2 h4
    omega

/-- what Pack answers -/
def PackT (l : List Rc) (n : Int) (w : World) (e : Ending) (w' : World) : Prop :=
  (holdN n = 0 → e = .returned (.tuple #[.slice none 0 0, .int .i64 2]))
  ∧ (holdN n ≠ 0 → (∀ x ∈ l, MayX x) → ∃ v, e = .returned (.tuple #[v, .int .i64 0]) ∧ w'.ownsRow w.heap.size 9 1 v (pagesN (holdN n) l) (strV (pagesX n.toNat (holdN n) l)))
  ∧ (holdN n ≠ 0 → ¬ (∀ x ∈ l, MayX x) → e = .returned (.tuple #[.slice none 0 0, .int .i64 110])) ∧ Below w.heap.size w w'

theorem infoStr : (Tryd.prog.info? 9).map (fun i => (i.zero, i.size, i.bytes)) = some (some (.string ByteArray.empty), 1, 16) := by kernel_rfl
theorem strV_snoc (f : Nat → ByteArray) (p : Nat) : strV ((List.range (p + 1)).map f) = strV ((List.range p).map f) ++ [.string (f p)] := by
  rw [List.range_succ, List.map_append]; unfold strV; rw [List.map_append]; rfl

/-- the size of a string that is a value -/
def szV : Value → Nat
  | .string s => s.size
  | _ => 0

end Go.Proofs.YtklbmlnghindjaaDoor
