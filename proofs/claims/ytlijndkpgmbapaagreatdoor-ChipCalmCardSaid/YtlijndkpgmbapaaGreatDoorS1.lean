/- Texts of one claim, merged: Kit, Args, Bs, CrcM, CrcR1, CrcR2, CrcR3, BitsM, Ref1, Ref1T, HamM, HamT, Ref1P, TagM, Ref1Z, FrM, OrM, CeM, FrR1, FrR2, Blk, OrR1, OrR2, OrR3, OrR4, Inv, Inv2, Reg, CeR1, CeR2, CeR3, CeR4, CeG, CeR5, CeR6, CeR7, CeR8. -/
import Derived.Test.YtlijndkpgmbapaaGreatDoorRows
import Derived.WalkKit
import Derived.ProofKit
import Derived.OpenShut
import Derived.Outline
import Derived.Lib.Hide
import Derived.WalkLawsBesides
import Derived.WalkSpells
import Derived.Handy
import Derived.Laws.BytesArg
import Derived.Laws.AppendOwn
import Derived.Lib.ConvBytes
import Derived.Carry
import Derived.ChangeSlices
import Derived.Lib.SmallJoins
import Derived.Deep.OwnRows
import Derived.RowKit
import Derived.Laws.Bits64b
import Derived.Laws.BitsLemmas
import Derived.Deep.WholeRow
import Derived.Deep.QuietTactic
import Derived.BigQuiet
import Derived.Orders
import Derived.Lib.OwnKind

/- Small lemmas of no one stage: what a call returns, slices of bytes that the call owns, turned into a text. -/
namespace Go.Proofs.YtlijndkpgmbapaaGreatDoor
open Go.RowKit

theorem ret_int {k : IntKind} {a b : Int} (h : a = b) : Ending.returned (.int k a) = .returned (.int k b) := by rw [h]
theorem ret_bool {a b : Bool} (h : a = b) : Ending.returned (.bool a) = .returned (.bool b) := by rw [h]
theorem ret_str {a b : ByteArray} {x : Value} (h : a = b) : Ending.returned (.tuple #[.string a, x]) = .returned (.tuple #[.string b, x]) := by rw [h]
theorem strOfNums_eq (xs : List Int) (l : List UInt8) (h : xs.map (fun n => UInt8.ofNat n.toNat) = l) : strOfNums xs = ⟨l.toArray⟩ := by unfold strOfNums; rw [h]

theorem cell_lt {w : World} {a : Addr} {v : Value} (h : w.cell? a = some v) : a.block < w.heap.size := by
  rcases Nat.lt_or_ge a.block w.heap.size with h2 | h2
  · exact h2
  · simp [World.cell?, Array.getElem?_eq_none h2] at h

/-- the first cells of a block are these bytes -/
def BytesAt (w : World) (b : Nat) (ns : List Int) : Prop := ∀ i, i < ns.length → w.cell? ⟨b, i, none⟩ = some (.int .u8 (ns.getD i 0))
theorem BytesAt.drew {w : World} {b : Nat} {ns : List Int} (h : BytesAt w b ns) : BytesAt w.drew b ns := h
theorem BytesAt.set {w : World} {b : Nat} {ns : List Int} (h : BytesAt w b ns) (i : Nat) (x : Int) : BytesAt (w.setCell ⟨b, i, none⟩ (.int .u8 x)) b (ns.set i x) := by
  intro k hk
  have hk' : k < ns.length := by simpa using hk
  by_cases e : k = i
  · subst e
    rw [World.cell?_setCell_same w _ _ (h k hk')]
    simp [List.getD, hk']
  · have hne : (⟨b, i, none⟩ : Addr) ≠ ⟨b, k, none⟩ := fun h2 => e (congrArg Addr.off h2).symm
    rw [World.cell?_setCell_other w _ _ _ hne, h k hk']
    simp [List.getD, Ne.symm e]
theorem BytesAt.conv {P : Program} {w : World} {src e dst : TypeId} (hs : P.underlying src = some (.slice e)) (he : P.underlying e = some (.int .u8)) (hd : P.underlying dst = some .string)
    {b : Nat} {ns : List Int} (h : BytesAt w b ns) (n cap : Nat) (hn : ns.length = n) : Sem.run P (convert src dst (.slice (some ⟨b, 0, none⟩) n cap)) w = .ok (.string (strOfNums ns)) w := by
  refine run_convert_bytes_arg w src e hs he b 0 n cap ns hn ?_ dst hd
  intro i hi
  rw [Nat.zero_add]
  exact h i (by omega)

/-- a text's bytes, as numbers -/
def nums (s : ByteArray) : List Int := s.data.toList.map fun b => (b.toNat : Int)
theorem nums_length (s : ByteArray) : (nums s).length = s.size := by simp [nums]
theorem nums_get (s : ByteArray) (i : Nat) (hi : i < s.size) : (nums s).getD i 0 = (s[i].toNat : Int) := by
  simp [nums, List.getD, hi]
  rfl
/-- a text's bytes in a block of the call's own: where they lie, what they are, that they may be written -/
theorem bytes_of {P : Program} {src dst e : TypeId} {u : TypeDesc} (hs : P.underlying src = some u) (hd : P.underlying dst = some (.slice e)) (he : P.underlying e = some (.int .u8)) (s : ByteArray) (w : World) : ∃ (cap : Nat) (W1 : World),
    Sem.run P (convert src dst (.string s)) w = .ok (.slice (some ⟨w.heap.size, 0, none⟩) s.size cap) W1 ∧ Below w.heap.size w W1 ∧
    BytesAt W1 w.heap.size (nums s) ∧ (∀ i, i < s.size → W1.frozen? ⟨w.heap.size, i, none⟩ = false) ∧ w.heap.size < W1.heap.size := by
  refine ⟨_, _, Lib.run_convert_string_bytes (P := P) w src dst e s hs hd he, ⟨rfl, rfl, rfl, by rw [Lib.bytesWorld_size]; omega, fun k hk => Lib.bytesWorld_at_old _ _ _ _ hk⟩, ?_, ?_, by rw [Lib.bytesWorld_size]; omega⟩
  · intro i hi
    rw [nums_length] at hi
    rw [Lib.bytesWorld_cell _ _ _ _ hi, nums_get _ _ hi]
    simp [List.getD, hi]; rfl
  · intro i hi
    have hz : s.size ≤ (Lib.bytesCells w e s).size := by
      unfold Lib.bytesCells; rw [Array.size_append, Array.size_map]; exact Nat.le_add_right _ _
    simp [World.frozen?, Lib.bytesWorld_at_new]
    omega

end Go.Proofs.YtlijndkpgmbapaaGreatDoor

/- Parameters that are slices or arrays of numbers: opened; shut again by Below.trod (an argument reads behind the call as it did). -/
namespace Go.Proofs.YtlijndkpgmbapaaGreatDoor
open Go.RowKit Go.ChangeShapes Go.WideShapes Go.ChangeAt

theorem add_block (a : Addr) (i : Nat) : (a.add i).block = a.block := by unfold Addr.add; split <;> rfl

section
variable {H : Type} {enc : TypeId × Value → H} {P : Program} {w : World}
end

end Go.Proofs.YtlijndkpgmbapaaGreatDoor

/- What several layers share: a text's bytes, a row that the call owns and grew, the byte type's entry. -/
namespace Go.Proofs.YtlijndkpgmbapaaGreatDoor
open Go.RowKit

def bs (s : ByteArray) : List UInt8 := s.data.toList
theorem bs_length (s : ByteArray) : (bs s).length = s.size := by simp [bs]
theorem Tryz.infoU8 : (Tryz.prog.info? 5).map (fun i => (i.zero, i.size, i.bytes)) = some (some (.int .u8 0), 1, 1) := by kernel_rfl

end Go.Proofs.YtlijndkpgmbapaaGreatDoor

/- Plain arithmetic for layer 2: a text as one great number, a step of the division, and what is left of it. No Go in sight. -/
namespace Go.Proofs.YtlijndkpgmbapaaGreatDoor

/-- the polynomial, the highest power's bit the lowest -/
def polyN : Nat := 3988292384
theorem polyN_lt : polyN < 2 ^ 32 := by decide
/-- one step: the lowest bit is taken away -/
def s0 (x : Nat) : Nat := x / 2 ^^^ (if x % 2 = 1 then polyN else 0)
def sN : Nat → Nat → Nat
  | 0, x => x
  | n + 1, x => sN n (s0 x)
theorem sN_add (m : Nat) : ∀ n x, sN (n + m) x = sN m (sN n x) := by
  intro n
  induction n with
  | zero => intro x; rw [Nat.zero_add]; rfl
  | succ n ih => intro x; rw [show n + 1 + m = (n + m) + 1 by omega]; exact ih (s0 x)
theorem xor_half (a b : Nat) : (a ^^^ b) / 2 = a / 2 ^^^ b / 2 := by
  apply Nat.eq_of_testBit_eq; intro i
  rw [Nat.testBit_xor, Nat.testBit_div_two, Nat.testBit_div_two, Nat.testBit_div_two, Nat.testBit_xor]
theorem xor_odd (a b : Nat) : (a ^^^ b) % 2 = (a % 2 + b % 2) % 2 := by
  have h := Nat.testBit_xor a b 0
  simp only [Nat.testBit_zero] at h
  have h1 : a % 2 = 0 ∨ a % 2 = 1 := by omega
  have h2 : b % 2 = 0 ∨ b % 2 = 1 := by omega
  have h3 : (a ^^^ b) % 2 = 0 ∨ (a ^^^ b) % 2 = 1 := by omega
  rcases h1 with h1 | h1 <;> rcases h2 with h2 | h2 <;> rcases h3 with h3 | h3 <;> simp [h1, h2, h3] at h ⊢
theorem s0_xor (a b : Nat) : s0 (a ^^^ b) = s0 a ^^^ s0 b := by
  unfold s0
  rw [xor_half, xor_odd]
  have h1 : a % 2 = 0 ∨ a % 2 = 1 := by omega
  have h2 : b % 2 = 0 ∨ b % 2 = 1 := by omega
  rcases h1 with h1 | h1 <;> rcases h2 with h2 | h2
  · simp [h1, h2]
  · simp [h1, h2, Nat.xor_assoc]
  · simp [h1, h2]
    rw [Nat.xor_assoc, Nat.xor_assoc, Nat.xor_comm (b / 2)]
  · simp [h1, h2]
    rw [Nat.xor_assoc, Nat.xor_comm polyN, Nat.xor_assoc, Nat.xor_self, Nat.xor_zero]
theorem sN_xor (n : Nat) : ∀ a b, sN n (a ^^^ b) = sN n a ^^^ sN n b := by
  induction n with
  | zero => intro a b; rfl
  | succ n ih => intro a b; show sN n (s0 (a ^^^ b)) = sN n (s0 a) ^^^ sN n (s0 b); rw [s0_xor, ih]
theorem s0_two (x : Nat) : s0 (2 * x) = x := by
  unfold s0
  rw [show 2 * x % 2 = 0 by omega, show 2 * x / 2 = x by omega]; simp
theorem sN_shift (n : Nat) : ∀ x, sN n (2 ^ n * x) = x := by
  induction n with
  | zero => intro x; simp [sN]
  | succ n ih => intro x; show sN n (s0 (2 ^ (n + 1) * x)) = x; rw [Nat.pow_succ, Nat.mul_comm (2 ^ n) 2, Nat.mul_assoc, s0_two, ih]
theorem s0_lt (x : Nat) (h : x < 2 ^ 32) : s0 x < 2 ^ 32 := by
  unfold s0
  refine Nat.xor_lt_two_pow (by omega) ?_
  split
  · exact polyN_lt
  · decide
theorem sN_lt (n : Nat) : ∀ x, x < 2 ^ 32 → sN n x < 2 ^ 32 := by
  induction n with
  | zero => intro x h; exact h
  | succ n ih => intro x h; exact ih _ (s0_lt x h)
/-- a text as one number, its first byte the lowest -/
def numN : List UInt8 → Nat
  | [] => 0
  | b :: l => b.toNat + 256 * numN l
theorem numN_lt : ∀ l : List UInt8, numN l < 2 ^ (8 * l.length)
  | [] => by simp [numN]
  | b :: l => by
    have h := numN_lt l
    have hb : b.toNat < 256 := b.toNat_lt
    rw [List.length_cons, show 8 * (l.length + 1) = 8 + 8 * l.length by omega, Nat.pow_add, show 2 ^ 8 = 256 from rfl]
    simp only [numN]; omega
theorem add_xor (a b n : Nat) (h : a < 2 ^ n) : a + 2 ^ n * b = a ^^^ 2 ^ n * b := by
  have h1 := Nat.shiftLeft_add_eq_or_of_lt h b
  rw [Nat.shiftLeft_eq, Nat.mul_comm] at h1
  rw [Nat.add_comm, h1]
  apply Nat.eq_of_testBit_eq; intro i
  rw [Nat.testBit_or, Nat.testBit_xor]
  by_cases hi : i < n
  · have h2 : (2 ^ n * b).testBit i = false := by rw [Nat.testBit_two_pow_mul]; simp; omega
    rw [h2]; simp
  · have h2 : a.testBit i = false := Nat.testBit_lt_two_pow (Nat.lt_of_lt_of_le h (Nat.pow_le_pow_right (by decide) (by omega)))
    rw [h2]; simp
theorem numN_append : ∀ a b : List UInt8, numN (a ++ b) = numN a + 2 ^ (8 * a.length) * numN b
  | [], b => by simp [numN]
  | c :: a, b => by
    have h := numN_append a b
    rw [List.length_cons, show 8 * (a.length + 1) = 8 + 8 * a.length by omega, Nat.pow_add, show 2 ^ 8 = 256 from rfl, Nat.mul_assoc]
    simp only [List.cons_append, numN, h]; omega
/-- the state behind a text -/
def more (st : Nat) (l : List UInt8) : Nat := sN (8 * l.length) (st ^^^ numN l)
theorem more_lt (st : Nat) (l : List UInt8) (h : st < 2 ^ 32) : more st l < 2 ^ 32 := by
  induction l generalizing st with
  | nil => simpa [more, sN, numN] using h
  | cons b l ih =>
    have hb : b.toNat < 256 := b.toNat_lt
    have e : more st (b :: l) = more (sN 8 (st ^^^ b.toNat)) l := by
      unfold more
      rw [List.length_cons, show 8 * (l.length + 1) = 8 + 8 * l.length by omega, sN_add]
      congr 1
      simp only [numN]
      rw [show b.toNat + 256 * numN l = b.toNat ^^^ 2 ^ 8 * numN l from add_xor b.toNat (numN l) 8 hb, ← Nat.xor_assoc, sN_xor, sN_shift]
    rw [e]
    exact ih _ (sN_lt _ _ (Nat.xor_lt_two_pow h (by omega)))
theorem more_cons (st : Nat) (b : UInt8) (l : List UInt8) : more st (b :: l) = more (sN 8 (st ^^^ b.toNat)) l := by
  have hb : b.toNat < 256 := b.toNat_lt
  unfold more
  rw [List.length_cons, show 8 * (l.length + 1) = 8 + 8 * l.length by omega, sN_add]
  congr 1
  simp only [numN]
  rw [show b.toNat + 256 * numN l = b.toNat ^^^ 2 ^ 8 * numN l from add_xor b.toNat (numN l) 8 hb, ← Nat.xor_assoc, sN_xor, sN_shift]
theorem more_nil (st : Nat) : more st [] = st := by simp [more, sN, numN]
theorem more_append (st : Nat) (a b : List UInt8) : more st (a ++ b) = more (more st a) b := by
  unfold more
  rw [List.length_append, show 8 * (a.length + b.length) = 8 * a.length + 8 * b.length by omega, sN_add, numN_append, add_xor _ _ _ (numN_lt a), ← Nat.xor_assoc, sN_xor, sN_shift]
theorem more_snoc (st : Nat) (a : List UInt8) (b : UInt8) : more st (a ++ [b]) = sN 8 (more st a ^^^ b.toNat) := by
  rw [more_append, more_cons, more_nil]

/-- all bits of 32 turned -/
def ones32 : Nat := 4294967295
def sumN (l : List UInt8) : Nat := more ones32 l ^^^ ones32
/-- four bytes of a number -/
def tail4 (n : Nat) : List UInt8 := [UInt8.ofNat (n % 256), UInt8.ofNat (n / 256 % 256), UInt8.ofNat (n / 65536 % 256), UInt8.ofNat (n / 16777216 % 256)]
def sealN (l : List UInt8) : List UInt8 := l ++ tail4 (sumN l)
theorem sumN_lt (l : List UInt8) : sumN l < 2 ^ 32 := Nat.xor_lt_two_pow (more_lt _ _ (by decide)) (by decide)
/-- what every sealed text comes to -/
def good : Nat := sN 32 ones32
/-! three texts put together -/
/-! bits that lie next to one another -/
/-! half a byte at a time -/
def half (i : Nat) : Nat := sN 4 i
theorem sN_half (x : Nat) : sN 4 x = x / 16 ^^^ half (x % 16) := by
  have e : x = x % 16 ^^^ 2 ^ 4 * (x / 16) := by
    rw [← add_xor _ _ _ (by omega : x % 16 < 2 ^ 4)]; omega
  conv => lhs; rw [e]
  rw [sN_xor, sN_shift, Nat.xor_comm]; rfl

end Go.Proofs.YtlijndkpgmbapaaGreatDoor

/- The reference of layer 2, walked: its lists of bits as the bits of one number. -/
namespace Go.Proofs.YtlijndkpgmbapaaGreatDoor
open Go.RowKit

/-- the first N cells of a block, from a place on, are the bits of a number -/
def BitsAt (w : World) (g off N M : Nat) : Prop := ∀ i, i < N → w.cell? ⟨g, off + i, none⟩ = some (.bool (M.testBit i))
theorem BitsAt.drew {w : World} {g off N M : Nat} (h : BitsAt w g off N M) : BitsAt w.drew g off N M := h
theorem BitsAt.below {w w' : World} {B g off N M : Nat} (h : BitsAt w g off N M) (hb : Below B w w') (hg : g < B) : BitsAt w' g off N M := by
  intro i hi
  rw [hb.cell (p := ⟨g, off + i, none⟩) hg]; exact h i hi
theorem BitsAt.set {w : World} {g N M M' : Nat} (h : BitsAt w g 0 N M) (j : Nat) (b : Bool) (hj : M'.testBit j = b) (ho : ∀ i, i ≠ j → M'.testBit i = M.testBit i) :
    BitsAt (w.setCell ⟨g, j, none⟩ (.bool b)) g 0 N M' := by
  intro i hi
  have h1 := h i hi
  rw [Nat.zero_add] at *
  by_cases e : i = j
  · subst e
    rw [World.cell?_setCell_same w _ _ h1, hj]
  · have hne : (⟨g, j, none⟩ : Addr) ≠ ⟨g, i, none⟩ := fun h2 => e (congrArg Addr.off h2).symm
    rw [World.cell?_setCell_other w _ _ _ hne, h1, ho i e]

/-- the k lowest bits of a number, as cells -/
def bl (M : Nat) : Nat → List Value
  | 0 => []
  | k + 1 => bl M k ++ [.bool (M.testBit k)]
/-! Poly: all numbers known -/
/-! Of: the bits of a number -/
/-! Bits: the bits of a text -/
end Go.Proofs.YtlijndkpgmbapaaGreatDoor

/- The reference's Number and Left: a list of bits as a number; what is left of a polynomial. -/
namespace Go.Proofs.YtlijndkpgmbapaaGreatDoor
open Go.RowKit

/-! Left -/
/-- a list of bits of the call's own: block G holds the bits of M, N of them, and may be written; nothing below G has turned -/
def OwnM (w wr : World) (G N M : Nat) : Prop := BitsAt wr G 0 N M ∧ Below G w wr ∧ (∀ i, wr.frozen? ⟨G, i, none⟩ = false) ∧ G < wr.heap.size
theorem OwnM.drew {w wr : World} {G N M : Nat} (h : OwnM w wr G N M) : OwnM w wr.drew G N M := ⟨h.1, h.2.1.drew, h.2.2.1, h.2.2.2⟩
theorem OwnM.set {w wr : World} {G N M M' : Nat} (h : OwnM w wr G N M) (j : Nat) (b : Bool) (hj : M'.testBit j = b) (ho : ∀ i, i ≠ j → M'.testBit i = M.testBit i) :
    OwnM w (wr.setCell ⟨G, j, none⟩ (.bool b)) G N M' := by
  refine ⟨h.1.set j b hj ho, h.2.1.setCell (Nat.le_refl _) _, fun i => ?_, by simpa [World.setCell] using h.2.2.2⟩
  rw [World.frozen?_setCell]; exact h.2.2.1 i
theorem OwnM.cell {w wr : World} {G N M : Nat} (h : OwnM w wr G N M) (i : Nat) (hi : i < N) : wr.cell? ⟨G, i, none⟩ = some (.bool (M.testBit i)) := by
  have := h.1 i hi; rwa [Nat.zero_add] at this
theorem OwnM.made (w : World) (N : Nat) (E : TypeId) : OwnM w (w.alloc (.cells (madeCells #[.bool false] N) E)) w.heap.size N 0 := by
  refine ⟨?_, (Below.refl _ _).alloc (Nat.le_refl _) _, fun i => World.frozen?_alloc_new _ _ _ _, by simp⟩
  intro i hi
  rw [Nat.zero_add, World.cell?_alloc_new, Nat.zero_testBit]
  simp [madeCells, hi, Nat.mod_one]

theorem OwnM.later {w wp w1 : World} {G N M : Nat} (h : OwnM w wp G N M) (hb : Below wp.heap.size wp w1) : OwnM w w1 G N M :=
  ⟨h.1.below hb h.2.2.2, h.2.1.trans (hb.mono (Nat.le_of_lt h.2.2.2)), fun i => by rw [hb.frozen (p := ⟨G, i, none⟩) h.2.2.2]; exact h.2.2.1 i, Nat.lt_of_lt_of_le h.2.2.2 hb.size⟩
theorem BitsAt.other {w : World} {g off N M : Nat} (h : BitsAt w g off N M) {G : Nat} (hg : G ≠ g) (j : Nat) (v : Value) : BitsAt (w.setCell ⟨G, j, none⟩ v) g off N M := by
  intro i hi
  have hne : (⟨G, j, none⟩ : Addr) ≠ ⟨g, off + i, none⟩ := fun h2 => hg (congrArg Addr.block h2)
  rw [World.cell?_setCell_other w _ _ _ hne]; exact h i hi
end Go.Proofs.YtlijndkpgmbapaaGreatDoor

/- The reference's More, Sum, Tail, Seal and Whole. -/
namespace Go.Proofs.YtlijndkpgmbapaaGreatDoor
open Go.RowKit

/-- a text, sealed -/
def sealS (s : ByteArray) : ByteArray := ⟨(sealN (bs s)).toArray⟩
theorem bs_sealS (s : ByteArray) : bs (sealS s) = sealN (bs s) := rfl
theorem seal_cat (s : ByteArray) : s ++ (⟨(tail4 (sumN (bs s))).toArray⟩ : ByteArray) = sealS s := by
  cases s with
  | mk d =>
    rw [ByteArray.mk_append_mk]
    unfold sealS sealN bs
    congr 1
theorem tail_str (N : Nat) : ∃ t : ByteArray, (⟨(tail4 N).toArray⟩ : ByteArray) = t ∧ t.size ≤ 4 := ⟨_, rfl, by show (tail4 N).toArray.size ≤ 4; simp [tail4]⟩

/-- is it sealed? -/
def wholeB (s : ByteArray) : Bool := decide (4 ≤ s.size) && ((sealS (s.extract 0 (s.size - 4))).toList == s.toList)
end Go.Proofs.YtlijndkpgmbapaaGreatDoor

/- Plain arithmetic for layer 1: powers of two, single bits, the lowest bits of a number, its sign in so many bits, and bits turned round in 64. No Go in sight. -/
namespace Go.Proofs.YtlijndkpgmbapaaGreatDoor
open Go.RowKit

def p2 (k : Nat) : Int := 2 ^ k
def lo (v : Int) (k : Nat) : Int := v % p2 k
/-! bits turned round in 64 -/
/-- so many bits, each at its new place -/
def turned (v : Int) (a m : Nat) : Int := if m ≤ 64 - a then lo v m * p2 a else lo v (64 - a) * p2 a + lo v m / p2 (64 - a)
end Go.Proofs.YtlijndkpgmbapaaGreatDoor

/- The reference of layer 1, as far as later layers lean on it: Power, Bit, Flip; and a text with a bit turned. -/
namespace Go.Proofs.YtlijndkpgmbapaaGreatDoor
open Go.RowKit

/-- a text with the bit j of its byte i the other way -/
def flipS (s : ByteArray) (i j : Nat) : ByteArray := strOfNums ((nums s).set i (bits .xor .u8 ((nums s).getD i 0) (2 ^ j % 256)))
theorem len_set (l : List Int) (i : Nat) (x : Int) (n : Nat) (h : l.length = n) : (l.set i x).length = n := by rw [List.length_set, h]

end Go.Proofs.YtlijndkpgmbapaaGreatDoor

/- Texts with a bit turned, and a text as one number: what turning a bit does to it. -/
namespace Go.Proofs.YtlijndkpgmbapaaGreatDoor
open Go.RowKit

/-- a byte with one bit the other way -/
def fb (c : UInt8) (j : Nat) : UInt8 := UInt8.ofNat (bits .xor .u8 (c.toNat : Int) (2 ^ j % 256)).toNat
/-- the same of a list of bytes -/
def fl (l : List UInt8) (i j : Nat) : List UInt8 := l.set i (fb (l.getD i 0) j)
theorem fl_length (l : List UInt8) (i j : Nat) : (fl l i j).length = l.length := by simp [fl]
theorem flipS_eq (s : ByteArray) (i j : Nat) (hi : i < s.size) : flipS s i j = ⟨(fl s.data.toList i j).toArray⟩ := by
  unfold flipS
  apply strOfNums_eq
  rw [nums_get s i hi, List.map_set]
  have e : (nums s).map (fun n : Int => UInt8.ofNat n.toNat) = s.data.toList := by
    unfold nums
    rw [List.map_map]
    have e : ((fun n : Int => UInt8.ofNat n.toNat) ∘ fun b : UInt8 => (b.toNat : Int)) = id := by funext b; simp
    rw [e, List.map_id]
  rw [e]
  unfold fl fb
  have hg : s.data.toList.getD i 0 = s[i] := by simp [List.getD, hi]; rfl
  rw [hg]
theorem flipS_list (s : ByteArray) (i j : Nat) (hi : i < s.size) : (flipS s i j).data.toList = fl s.data.toList i j := by rw [flipS_eq s i j hi]
theorem flipS_size (s : ByteArray) (i j : Nat) (hi : i < s.size) : (flipS s i j).size = s.size := by
  have h : (flipS s i j).data.toList.length = s.data.toList.length := by rw [flipS_list s i j hi, fl_length]
  simpa using h
theorem numN_bit : ∀ (l : List UInt8) (k j : Nat) (c : UInt8), l[k]? = some c → j < 8 → (numN l).testBit (8 * k + j) = c.toNat.testBit j
  | [], k, j, c, h, _ => by simp at h
  | b :: l, 0, j, c, h, hj => by
    simp at h; subst h
    have hb : b.toNat < 2 ^ 8 := b.toNat_lt
    rw [show numN (b :: l) = 2 ^ 8 * numN l + b.toNat by simp only [numN]; omega, Nat.testBit_two_pow_mul_add _ hb, if_pos (by omega), show 8 * 0 + j = j by omega]
  | b :: l, k + 1, j, c, h, hj => by
    have hb : b.toNat < 2 ^ 8 := b.toNat_lt
    rw [show numN (b :: l) = 2 ^ 8 * numN l + b.toNat by simp only [numN]; omega, Nat.testBit_two_pow_mul_add _ hb, if_neg (by omega), show 8 * (k + 1) + j - 8 = 8 * k + j by omega]
    exact numN_bit l k j c (by simpa using h) hj
end Go.Proofs.YtlijndkpgmbapaaGreatDoor

/- Plain arithmetic for layer 3: the places of bits, put together, and how many bits there are. No Go in sight. -/
namespace Go.Proofs.YtlijndkpgmbapaaGreatDoor

def pl : List Nat := [3, 5, 6, 7, 9, 10, 11, 12, 13, 14, 15, 17, 18, 19, 20, 21, 22, 23, 24, 25, 26, 27, 28, 29, 30, 31, 33, 34, 35, 36, 37, 38, 39, 40, 41, 42, 43, 44, 45, 46, 47, 48, 49, 50, 51, 52, 53, 54, 55, 56, 57, 58, 59, 60, 61, 62, 63, 65, 66, 67, 68, 69, 70, 71, 1, 2, 4, 8, 16, 32, 64, 0]
def place (i : Nat) : Nat := pl.getD i 0
theorem place_le (i : Nat) : place i ≤ 71 := by
  by_cases h : i < 72
  · have h2 : ∀ i, i < 72 → place i ≤ 71 := by decide +kernel
    exact h2 i h
  · unfold place
    have h3 : pl[i]? = none := List.getElem?_eq_none (by show pl.length ≤ i; rw [show pl.length = 72 from rfl]; omega)
    rw [List.getD_eq_getElem?_getD, h3]; decide
theorem place_inj {i j : Nat} (hi : i < 72) (hj : j < 72) (h : place i = place j) : i = j := by
  have h2 : ∀ i, i < 72 → ∀ j, j < 72 → place i = place j → i = j := by decide +kernel
  exact h2 i hi j hj h
/-- where a place stands among the 72 -/
def idx (p : Nat) : Nat := pl.idxOf p
/-- what is left of the places of the bits below n that are 1 -/
def left (M : Nat) : Nat → Nat
  | 0 => 0
  | n + 1 => left M n ^^^ (if M.testBit n then place n else 0)
/-- how many bits below n are 1 -/
def cnt (M : Nat) : Nat → Nat
  | 0 => 0
  | n + 1 => cnt M n + (if M.testBit n then 1 else 0)
theorem left_lt (M : Nat) : ∀ n, left M n < 128
  | 0 => by show (0 : Nat) < 128; decide
  | n + 1 => by
    have h := left_lt M n
    have h2 := place_le n
    unfold left
    refine Nat.xor_lt_two_pow (n := 7) h ?_
    split <;> omega
theorem cnt_le (M : Nat) : ∀ n, cnt M n ≤ n
  | 0 => Nat.le_refl _
  | n + 1 => by
    have h := cnt_le M n
    unfold cnt; split <;> omega
theorem left_xor (A B : Nat) : ∀ n, left (A ^^^ B) n = left A n ^^^ left B n
  | 0 => by show (0 : Nat) = 0 ^^^ 0; rfl
  | n + 1 => by
    have ih := left_xor A B n
    simp only [left, Nat.testBit_xor, ih]
    cases A.testBit n <;> cases B.testBit n <;> simp
    · ac_rfl
    · ac_rfl
    · rw [show left A n ^^^ place n ^^^ (left B n ^^^ place n) = (left A n ^^^ left B n) ^^^ (place n ^^^ place n) by ac_rfl, Nat.xor_self, Nat.xor_zero]
theorem cnt_xor (A B : Nat) : ∀ n, cnt (A ^^^ B) n % 2 = (cnt A n + cnt B n) % 2
  | 0 => rfl
  | n + 1 => by
    have ih := cnt_xor A B n
    simp only [cnt, Nat.testBit_xor]
    cases A.testBit n <;> cases B.testBit n <;> simp <;> omega
theorem cnt_congr {A B : Nat} : ∀ n, (∀ i, i < n → A.testBit i = B.testBit i) → cnt A n = cnt B n
  | 0, _ => rfl
  | n + 1, h => by
    simp only [cnt]
    rw [cnt_congr n (fun i hi => h i (by omega)), h n (by omega)]
theorem pow_testBit (k i : Nat) : (2 ^ k).testBit i = decide (k = i) := Nat.testBit_two_pow ..
theorem cnt_flip {M k : Nat} (hb : M.testBit k = true) : ∀ n, k < n → cnt M n = cnt (M ^^^ 2 ^ k) n + 1
  | 0, h => by omega
  | n + 1, h => by
    simp only [cnt, Nat.testBit_xor, pow_testBit]
    by_cases e : k = n
    · subst e
      rw [cnt_congr (A := M ^^^ 2 ^ k) (B := M) k (fun i hi => by rw [Nat.testBit_xor, pow_testBit, decide_eq_false (by omega)]; simp), hb]
      simp
    · rw [cnt_flip hb n (by omega), decide_eq_false e]
      simp; omega
theorem left_more (M n : Nat) : ∀ d, (∀ i, n ≤ i → i < n + d → M.testBit i = false) → left M (n + d) = left M n
  | 0, _ => rfl
  | d + 1, h => by
    show left M (n + d) ^^^ (if M.testBit (n + d) then place (n + d) else 0) = _
    rw [left_more M n d (fun i h1 h2 => h i h1 (by omega)), h (n + d) (by omega) (by omega)]; simp
theorem cnt_more (M n : Nat) : ∀ d, (∀ i, n ≤ i → i < n + d → M.testBit i = false) → cnt M (n + d) = cnt M n
  | 0, _ => rfl
  | d + 1, h => by
    show cnt M (n + d) + (if M.testBit (n + d) then 1 else 0) = _
    rw [cnt_more M n d (fun i h1 h2 => h i h1 (by omega)), h (n + d) (by omega) (by omega)]; simp
theorem high_nil {M n i : Nat} (h : M < 2 ^ n) (hi : n ≤ i) : M.testBit i = false :=
  Nat.testBit_lt_two_pow (Nat.lt_of_lt_of_le h (Nat.pow_le_pow_right (by decide) hi))
theorem left_64 {M : Nat} (h : M < 2 ^ 64) : left M 72 = left M 64 := left_more M 64 8 fun _ h1 _ => high_nil h h1
theorem cnt_64 {M : Nat} (h : M < 2 ^ 64) : cnt M 72 = cnt M 64 := cnt_more M 64 8 fun _ h1 _ => high_nil h h1
theorem left_pow {k : Nat} (hk : k < 72) : left (2 ^ k) 72 = place k := by
  have h2 : ∀ k, k < 72 → left (2 ^ k) 72 = place k := by decide +kernel
  exact h2 k hk
theorem check_cnt {p q : Nat} (hp : p < 128) (hq : q < 2) : cnt (2 ^ 64 * (p + 128 * q)) 72 = cnt p 7 + q := by
  have h2 : ∀ p, p < 128 → ∀ q, q < 2 → cnt (2 ^ 64 * (p + 128 * q)) 72 = cnt p 7 + q := by decide +kernel
  exact h2 p hp q hq

/-- the check -/
def encN (M : Nat) : Nat := left M 64 + 128 * ((cnt M 64 + cnt (left M 64) 7) % 2)
theorem xor_ne {a b : Nat} (h : a ≠ b) : a ^^^ b ≠ 0 := by
  intro h0
  apply h
  have := congrArg (· ^^^ b) h0
  simpa [Nat.xor_assoc] using this
theorem some_bit {D n : Nat} (h : D < 2 ^ n) (h0 : D ≠ 0) : ∃ i, i < n ∧ D.testBit i = true := by
  obtain ⟨i, hi⟩ := Nat.exists_testBit_of_ne_zero h0
  refine ⟨i, ?_, hi⟩
  rcases Nat.lt_or_ge i n with h1 | h1
  · exact h1
  · rw [high_nil h h1] at hi; cases hi
theorem flip_lt {D n i : Nat} (h : D < 2 ^ n) (hi : i < n) : D ^^^ 2 ^ i < 2 ^ n := Nat.xor_lt_two_pow h (Nat.pow_lt_pow_right (by decide) hi)
theorem cnt_zero : ∀ n, cnt 0 n = 0
  | 0 => rfl
  | n + 1 => by simp [cnt, cnt_zero n]
theorem apart {D : Nat} (h : D < 2 ^ 72) (h0 : D ≠ 0) (hl : left D 72 = 0) (he : cnt D 72 % 2 = 0) : 4 ≤ cnt D 72 := by
  obtain ⟨i, hi, bi⟩ := some_bit h h0
  have c1 := cnt_flip bi 72 hi
  have l1 := flip_lt h hi
  have n1 : D ^^^ 2 ^ i ≠ 0 := by
    intro e; rw [e, cnt_zero] at c1; omega
  obtain ⟨j, hj, bj⟩ := some_bit l1 n1
  have c2 := cnt_flip bj 72 hj
  have l2 := flip_lt l1 hj
  have hij : i ≠ j := by
    intro e; subst e
    rw [Nat.testBit_xor, bi, pow_testBit] at bj; simp at bj
  have n2 : D ^^^ 2 ^ i ^^^ 2 ^ j ≠ 0 := by
    intro e
    have h3 := left_xor (D ^^^ 2 ^ i) (2 ^ j) 72
    rw [left_xor D, hl, left_pow hi, left_pow hj, e, Nat.zero_xor, show left 0 72 = 0 by decide +kernel] at h3
    exact xor_ne (fun e2 => hij (place_inj hi hj e2)) h3.symm
  obtain ⟨k, hk, bk⟩ := some_bit l2 n2
  have c3 := cnt_flip bk 72 hk
  omega
end Go.Proofs.YtlijndkpgmbapaaGreatDoor

/- Layer 3 of texts: what the document asks of Encode and Decode, and what follows from it. -/
namespace Go.Proofs.YtlijndkpgmbapaaGreatDoor
open Go.RowKit

/-- eight bytes and their check -/
def encS (s : ByteArray) : ByteArray := ⟨(bs s ++ [UInt8.ofNat (encN (numN (bs s)))]).toArray⟩
theorem encS_size (s : ByteArray) : (encS s).size = s.size + 1 := by
  show (bs s ++ [UInt8.ofNat (encN (numN (bs s)))]).toArray.size = _
  simp [bs]
theorem num_lt (s : ByteArray) (h : s.size = 8) : numN (bs s) < 2 ^ 64 := by
  have := numN_lt (bs s)
  rwa [bs_length, h] at this
end Go.Proofs.YtlijndkpgmbapaaGreatDoor

/- The reference of layer 1, as far as later layers lean on it: Put, Get. -/
namespace Go.Proofs.YtlijndkpgmbapaaGreatDoor
open Go.RowKit

/-- a number's n lowest bytes, the lowest first -/
def le : Int → Nat → List UInt8
  | _, 0 => []
  | v, n + 1 => UInt8.ofNat (v % 256).toNat :: le (v / 256) n
theorem le_length (n : Nat) : ∀ v, (le v n).length = n := by
  induction n with
  | zero => intro v; rfl
  | succ n ih => intro v; simp [le, ih]
def leS (v : Int) (n : Nat) : ByteArray := ⟨(le v n).toArray⟩

/-- what is left of a number when k bytes are taken -/
def rest : Int → Nat → Int
  | v, 0 => v
  | v, k + 1 => rest v k / 256
/-- the number whose bytes these are, the lowest first -/
def num : List UInt8 → Int
  | [] => 0
  | b :: l => (b.toNat : Int) + 256 * num l
def numTo (s : ByteArray) (k : Nat) : Int := num (s.data.toList.take k)
/-- the place's power of 256, as it is kept in 64 bits -/
def pp (k : Nat) : Int := lo (p2 (8 * k)) 64
def numS (s : ByteArray) : Int := numTo s s.size

theorem leS_size (v : Int) (m : Nat) : (leS v m).size = m := by
  show (le v m).toArray.size = m
  rw [List.size_toArray, le_length]
end Go.Proofs.YtlijndkpgmbapaaGreatDoor

/- Tags and their bytes: what the document asks of Encode, Decode and May, and what follows from it. -/
namespace Go.Proofs.YtlijndkpgmbapaaGreatDoor
open Go.RowKit

/-- a tag that may be -/
def MayT (k l q e : Int) : Prop := 1 ≤ k ∧ k ≤ 4 ∧ 0 ≤ l ∧ l ≤ 4096 ∧ 0 ≤ q ∧ q ≤ 281474976710655 ∧ 0 ≤ e ∧ e ≤ 4294967295
instance (k l q e : Int) : Decidable (MayT k l q e) := by unfold MayT; infer_instance
def mayB (k l q e : Int) : Bool := decide (MayT k l q e)
theorem mayB_iff (k l q e : Int) : mayB k l q e = true ↔ MayT k l q e := decide_eq_true_iff
/-- a tag's bytes -/
def tagL (k l q e : Int) : List UInt8 := 27 :: UInt8.ofNat k.toNat :: (le l 2 ++ le q 6 ++ le e 4 ++ [0, 0])
def tagS (k l q e : Int) : ByteArray := ⟨(tagL k l q e).toArray⟩
theorem tagS_size (k l q e : Int) : (tagS k l q e).size = 16 := rfl
def byteT (s : ByteArray) (i : Nat) : Int := ((s.data.toList.getD i 0).toNat : Int)
def lT (s : ByteArray) : Int := numS (s.extract 2 4)
def qT (s : ByteArray) : Int := numS (s.extract 4 10)
def eT (s : ByteArray) : Int := numS (s.extract 10 14)
/-- a text that is a tag's bytes -/
def FormT (s : ByteArray) : Prop := s.size = 16 ∧ byteT s 0 = 27 ∧ byteT s 14 = 0 ∧ byteT s 15 = 0
def OkT (s : ByteArray) : Prop := FormT s ∧ MayT (byteT s 1) (lT s) (qT s) (eT s)
instance (s : ByteArray) : Decidable (FormT s) := by unfold FormT; infer_instance
instance (s : ByteArray) : Decidable (OkT s) := by unfold OkT; infer_instance
end Go.Proofs.YtlijndkpgmbapaaGreatDoor

/- The reference of layer 1, as far as later layers lean on it: Zeros. -/
namespace Go.Proofs.YtlijndkpgmbapaaGreatDoor
open Go.RowKit

end Go.Proofs.YtlijndkpgmbapaaGreatDoor

/- Layer 5 of texts: what the document asks of a page's bytes. -/
namespace Go.Proofs.YtlijndkpgmbapaaGreatDoor
open Go.RowKit

/-- so many bytes of data may be -/
def LenOk (n : Nat) : Prop := 8 ≤ n ∧ n ≤ 256 ∧ n % 8 = 0
instance (n : Nat) : Decidable (LenOk n) := by unfold LenOk; infer_instance
/-- a text's k-th piece of so many bytes -/
def piece (s : ByteArray) (m k : Nat) : ByteArray := s.extract (m * k) (m * k + m)
theorem piece_size (s : ByteArray) (m k : Nat) (h : m * k + m ≤ s.size) : (piece s m k).size = m := by
  unfold piece; rw [ByteArray.size_extract]; omega
/-- the first k chunks -/
def chunks (s : ByteArray) : Nat → ByteArray
  | 0 => ByteArray.empty
  | k + 1 => chunks s k ++ encS (piece s 8 k)
theorem chunks_size (s : ByteArray) : ∀ k, 8 * k ≤ s.size → (chunks s k).size = 9 * k
  | 0, _ => rfl
  | k + 1, h => by
    show (chunks s k ++ encS (piece s 8 k)).size = _
    rw [ByteArray.size_append, chunks_size s k (by omega), encS_size, piece_size s 8 k (by omega)]; omega
theorem sealS_size (s : ByteArray) : (sealS s).size = s.size + 4 := by
  rw [← bs_length, bs_sealS]; unfold sealN; rw [List.length_append, bs_length]; rfl
def four0 : ByteArray := ⟨#[0, 0, 0, 0]⟩
/-- what a page holds, ahead of its chunks -/
def inner (k l q e : Int) (data : ByteArray) : ByteArray := sealS (tagS k l q e ++ data) ++ four0
theorem inner_size (k l q e : Int) (data : ByteArray) : (inner k l q e data).size = data.size + 24 := by
  unfold inner
  rw [ByteArray.size_append, sealS_size, ByteArray.size_append, tagS_size, show four0.size = 4 from rfl]; omega
/-- a page's bytes -/
def pageS (k l q e : Int) (data : ByteArray) : ByteArray := chunks (inner k l q e data) ((data.size + 24) / 8)
theorem pageS_size (k l q e : Int) (data : ByteArray) : (pageS k l q e data).size = (data.size + 24) / 8 * 9 := by
  unfold pageS
  rw [chunks_size _ _ (by rw [inner_size]; omega)]; omega
def frT (k l q e : Int) (data : ByteArray) : ByteArray := if LenOk data.size ∧ MayT k l q e then pageS k l q e data else ByteArray.empty
def frE (k l q e : Int) (data : ByteArray) : Int := if LenOk data.size then (if MayT k l q e then 0 else 1) else 2

/-- what they hold is a page's -/
def HoldsPage (all : ByteArray) : Prop := OkT (all.extract 0 16) ∧ all.extract (all.size - 4) all.size = four0 ∧ wholeB (all.extract 0 (all.size - 4)) = true
def ShapeOk (n : Nat) : Prop := n % 9 = 0 ∧ 36 ≤ n ∧ n ≤ 315
/-- a page's value -/
def pv (what k l q e : Int) (data : ByteArray) : Array Value := #[.int .i64 what, .int .i64 k, .int .i64 l, .int .i64 q, .int .i64 e, .string data]
instance (n : Nat) : Decidable (ShapeOk n) := by unfold ShapeOk; infer_instance
instance (all : ByteArray) : Decidable (HoldsPage all) := by unfold HoldsPage; infer_instance
/-- a blank page -/
def blankS (n : Nat) : ByteArray := ⟨(List.replicate ((n + 24) / 8 * 9) 255).toArray⟩
def blankT (n : Int) : ByteArray := if 0 ≤ n ∧ LenOk n.toNat then blankS n.toNat else ByteArray.empty
/-- two bits of the first nine bytes turned -/
def first72 (a : Int) : Nat := (a % 72).toNat
def second72 (a b : Int) : Nat := (first72 a + 1 + (b % 71).toNat) % 72
def hurtT (s : ByteArray) (a b : Int) : ByteArray := if s.size < 9 then s else flipS (flipS s (first72 a / 8) (first72 a % 8)) (second72 a b / 8) (second72 a b % 8)

end Go.Proofs.YtlijndkpgmbapaaGreatDoor

/- Layer 7: what the document asks of the steps of a block, in lists and numbers; all that follows is tried at each number of lines. -/
namespace Go.Proofs.YtlijndkpgmbapaaGreatDoor
set_option maxRecDepth 100000
open Go.RowKit

/-- the steps behind k lines, but the last fine one -/
def refTo : Nat → List (Nat × Bool)
  | 0 => []
  | 1 => [(0, false)]
  | k + 2 => refTo (k + 1) ++ [(k + 1, false), (k, true)]
def refL (n : Nat) : List (Nat × Bool) := refTo n ++ [(n - 1, true)]
theorem refTo_length : ∀ k, 1 ≤ k → (refTo k).length = 2 * k - 1
  | 1, _ => rfl
  | k + 2, _ => by
    show (refTo (k + 1) ++ _).length = _
    rw [List.length_append, refTo_length (k + 1) (by omega)]
    simp only [List.length_cons, List.length_nil]; omega
theorem refL_length (n : Nat) (h : 1 ≤ n) : (refL n).length = 2 * n := by
  unfold refL
  rw [List.length_append, refTo_length n h]
  simp only [List.length_cons, List.length_nil]; omega
/-- the k-th step; which step one is; what a line is -/
def stepC (n k : Nat) : Nat × Bool := if k = 0 then (0, false) else if k + 1 = 2 * n then (n - 1, true) else if k % 2 = 1 then ((k + 1) / 2, false) else (k / 2 - 1, true)
def placeC (n l : Nat) (f : Bool) : Nat := if f = true then (if l + 1 = n then 2 * n - 1 else 2 * l + 2) else (if l = 0 then 0 else 2 * l - 1)
def afterC (n k l : Nat) : Nat := if placeC n l true < k then 2 else if placeC n l false < k then 1 else 0
theorem refL_map : ∀ n, n ≤ 64 → 1 ≤ n → refL n = (List.range (2 * n)).map (stepC n) := by decide +kernel
theorem refL_at {n k : Nat} (h1 : 1 ≤ n) (h64 : n ≤ 64) (hk : k < 2 * n) : (refL n).getD k (0, false) = stepC n k := by
  rw [refL_map n h64 h1]
  simp [List.getD, hk]
/-- steps and places go there and back -/
theorem step_place {n l : Nat} (f : Bool) (h : l < n) : stepC n (placeC n l f) = (l, f) ∧ placeC n l f < 2 * n := by
  cases f
  · have hp : placeC n l false = if l = 0 then 0 else 2 * l - 1 := rfl
    rw [hp]
    split
    · rename_i h0
      exact ⟨by rw [h0]; rfl, by omega⟩
    · unfold stepC
      rw [if_neg (by omega), if_neg (by omega), if_pos (by omega)]
      exact ⟨by congr 1; omega, by omega⟩
  · have hp : placeC n l true = if l + 1 = n then 2 * n - 1 else 2 * l + 2 := rfl
    rw [hp]
    unfold stepC
    split
    · rw [if_neg (by omega), if_pos (by omega)]
      exact ⟨by congr 1; omega, by omega⟩
    · rw [if_neg (by omega), if_neg (by omega), if_neg (by omega)]
      exact ⟨by congr 1; omega, by omega⟩
theorem place_step {n k : Nat} (h : k < 2 * n) : placeC n (stepC n k).1 (stepC n k).2 = k ∧ (stepC n k).1 < n := by
  unfold stepC
  split
  · rename_i h0
    exact ⟨by rw [h0]; rfl, by show 0 < n; omega⟩
  · split
    · refine ⟨?_, by show n - 1 < n; omega⟩
      show (if (n - 1) + 1 = n then 2 * n - 1 else 2 * (n - 1) + 2) = k
      rw [if_pos (by omega)]; omega
    · split
      · refine ⟨?_, by show (k + 1) / 2 < n; omega⟩
        show (if (k + 1) / 2 = 0 then 0 else 2 * ((k + 1) / 2) - 1) = k
        rw [if_neg (by omega)]; omega
      · refine ⟨?_, by show k / 2 - 1 < n; omega⟩
        show (if (k / 2 - 1) + 1 = n then 2 * n - 1 else 2 * (k / 2 - 1) + 2) = k
        rw [if_neg (by omega)]; omega
theorem foggy_first (n l : Nat) : placeC n l false < placeC n l true := by
  show (if l = 0 then 0 else 2 * l - 1) < (if l + 1 = n then 2 * n - 1 else 2 * l + 2)
  split <;> split <;> omega
/-- with each step just the line that it is of becomes more, by one -/
theorem after_succ {n k l : Nat} (hk : k < 2 * n) (hl : l < n) : afterC n (k + 1) l = afterC n k l + (if (stepC n k).1 = l then 1 else 0) := by
  have hp := place_step hk
  have hf := foggy_first n l
  have hsf := step_place false hl
  have hst := step_place true hl
  by_cases he : (stepC n k).1 = l
  · rw [if_pos he]
    rw [he] at hp
    unfold afterC
    cases hb : (stepC n k).2 with
    | false =>
      rw [hb] at hp
      rw [if_neg (by omega), if_pos (by omega), if_neg (by omega), if_neg (by omega)]
    | true =>
      rw [hb] at hp
      rw [if_pos (by omega), if_neg (by omega), if_pos (by omega)]
  · rw [if_neg he]
    have h1 : placeC n l false ≠ k := fun h => he (by rw [← h, hsf.1])
    have h2 : placeC n l true ≠ k := fun h => he (by rw [← h, hst.1])
    unfold afterC
    by_cases h3 : placeC n l true < k
    · rw [if_pos (by omega), if_pos h3]
    · rw [if_neg (by omega), if_neg h3]
      by_cases h4 : placeC n l false < k
      · rw [if_pos (by omega), if_pos h4]
      · rw [if_neg (by omega), if_neg h4]
theorem after_none (n l : Nat) : afterC n 0 l = 0 := by
  unfold afterC
  rw [if_neg (by omega), if_neg (by omega)]
theorem after_le (n k l : Nat) : afterC n k l ≤ 2 := by unfold afterC; split <;> (try split) <;> omega
/-- so many lines may be -/
def LinesOk (n : Int) : Prop := 1 ≤ n ∧ n ≤ 64
instance (n : Int) : Decidable (LinesOk n) := by unfold LinesOk; infer_instance

/-- the cells of some steps -/
def cellsS (l : List (Nat × Bool)) : List Value := l.flatMap fun s => [.int .i64 (s.1 : Nat), .bool s.2]
theorem cellsS_line : ∀ (l : List (Nat × Bool)) (j : Nat), j < l.length → (cellsS l)[2 * j]? = some (.int .i64 ((l.getD j (0, false)).1 : Nat))
  | [], j, h => absurd h (Nat.not_lt_zero j)
  | x :: l, 0, _ => rfl
  | x :: l, j + 1, h => by
    have := cellsS_line l j (by simpa using h)
    simpa [cellsS, List.flatMap_cons, show 2 * (j + 1) = 2 * j + 1 + 1 by omega] using this
theorem cellsS_fine : ∀ (l : List (Nat × Bool)) (j : Nat), j < l.length → (cellsS l)[2 * j + 1]? = some (.bool (l.getD j (0, false)).2)
  | [], j, h => absurd h (Nat.not_lt_zero j)
  | x :: l, 0, _ => rfl
  | x :: l, j + 1, h => by
    have := cellsS_fine l j (by simpa using h)
    simpa [cellsS, List.flatMap_cons, show 2 * (j + 1) + 1 = 2 * j + 1 + 1 + 1 by omega] using this

/-- a step's cells -/
def sv (l : Int) (f : Bool) : Array Value := #[.int .i64 l, .bool f]
/-- is there such a step, such a line; what is asked of At, Place and After -/
def IsStep (n k : Int) : Prop := LinesOk n ∧ 0 ≤ k ∧ k < 2 * n
def IsLine (n l : Int) : Prop := LinesOk n ∧ 0 ≤ l ∧ l < n
def IsAfter (n k l : Int) : Prop := LinesOk n ∧ 0 ≤ k ∧ k ≤ 2 * n ∧ 0 ≤ l ∧ l < n
instance (n k : Int) : Decidable (IsStep n k) := by unfold IsStep; infer_instance
instance (n l : Int) : Decidable (IsLine n l) := by unfold IsLine; infer_instance
instance (n k l : Int) : Decidable (IsAfter n k l) := by unfold IsAfter; infer_instance
def stL (n k : Int) : Int := if IsStep n k then ((stepC n.toNat k.toNat).1 : Nat) else 0
def stF (n k : Int) : Bool := if IsStep n k then (stepC n.toNat k.toNat).2 else false
def stC (n k : Int) : Int := if IsStep n k then 0 else 1
def plN (n l : Int) (f : Bool) : Int := if IsLine n l then (placeC n.toNat l.toNat f : Nat) else 0
def plC (n l : Int) : Int := if IsLine n l then 0 else 1
def afN (n k l : Int) : Int := if IsAfter n k l then (afterC n.toNat k.toNat l.toNat : Nat) else 0
def afC (n k l : Int) : Int := if IsAfter n k l then 0 else 1
def StepT (n k : Int) (w : World) (e : Ending) (w' : World) : Prop := e = .returned (.tuple #[.agg (sv (stL n k) (stF n k)), .int .i64 (stC n k)]) ∧ Below w.heap.size w w'
def PlaceT (n l : Int) (f : Bool) (w : World) (e : Ending) (w' : World) : Prop := e = .returned (.tuple #[.int .i64 (plN n l f), .int .i64 (plC n l)]) ∧ Below w.heap.size w w'
def AfterT (n k l : Int) (w : World) (e : Ending) (w' : World) : Prop := e = .returned (.tuple #[.int .i64 (afN n k l), .int .i64 (afC n k l)]) ∧ Below w.heap.size w w'

end Go.Proofs.YtlijndkpgmbapaaGreatDoor

/- A cell: what the document asks of it, as a state and what each act makes of it. -/
namespace Go.Proofs.YtlijndkpgmbapaaGreatDoor
set_option maxRecDepth 100000
open Go.RowKit

/-- a cell: three pages a line, one line behind the other; no page: the empty text -/
structure St where
  L : Nat
  Y : Nat
  mode : Int
  done : Nat
  bad : Bool
  torn : Bool
  slc : Nat
  tlc : Nat
  ps : List ByteArray
  hs : List Bool

/-- a cell that can be -/
structure WfSt (s : St) : Prop where
  l1 : 1 ≤ s.L
  l64 : s.L ≤ 64
  y : LenOk s.Y
  done : s.done ≤ 2 * s.L
  psl : s.ps.length = 3 * s.L
  hsl : s.hs.length = 3 * s.L
  size : ∀ j, (s.ps.getD j ByteArray.empty).size ≤ 400
  mode : s.mode = 0 ∨ s.mode = 1 ∨ s.mode = 2
  slc : s.slc ≤ 1000000000
  tlc : s.tlc ≤ 1000000000

def hurtsB (k : Int) : Bool := k == 1 || k == 2
def pageT (p : ByteArray) (k a b : Int) : ByteArray := if hurtsB k = true then hurtT p a b else p
def putSt (s : St) (i : Nat) (p : ByteArray) (h : Bool) : St := { s with ps := s.ps.set i p, hs := s.hs.set i h }
def endSt (s : St) (k : Int) : St := if k = 1 then { s with torn := true } else if k = 2 then { s with bad := true } else s
def endC (k : Int) : Int := if k = 1 then 82 else if k = 2 then 81 else 0
/-- so many bytes has a page on the chip -/
def rawOf (y : Nat) : Nat := (y / 8 + 3) * 9
def takesB (s : St) (p : ByteArray) : Bool := p.size == rawOf s.Y
def newSt (l y : Nat) : St := ⟨l, y, 0, 0, false, false, 0, 0, List.replicate (3 * l) ByteArray.empty, List.replicate (3 * l) false⟩
def NewOk (l y : Int) : Prop := LinesOk l ∧ 0 ≤ y ∧ LenOk y.toNat
instance (l y : Int) : Decidable (NewOk l y) := by unfold NewOk LinesOk; infer_instance

def ProgOk (s : St) (line : Int) (p : ByteArray) : Prop := s.bad = false ∧ s.torn = false ∧ s.mode ≠ 2 ∧ line = s.done ∧ line < s.L ∧ takesB s p = true
instance (s : St) (line : Int) (p : ByteArray) : Decidable (ProgOk s line p) := by unfold ProgOk; infer_instance
def stepSt (s : St) (m : Int) : St := { s with mode := m, done := s.done + 1 }
def progSt (s : St) (line : Int) (p : ByteArray) (k a b : Int) : St :=
  if ProgOk s line p then endSt (putSt (stepSt s 1) (3 * line.toNat) (pageT p k a b) (hurtsB k)) k else s
def progC (s : St) (line : Int) (p : ByteArray) (k : Int) : Int := if ProgOk s line p then endC k else 80

def pageAt (s : St) (j : Nat) : ByteArray := s.ps.getD j ByteArray.empty
def TwoOk (s : St) (line : Int) (p q r : ByteArray) (f : Bool) : Prop :=
  s.bad = false ∧ s.torn = false ∧ s.mode ≠ 1 ∧ s.done < 2 * s.L ∧ line = ((stepC s.L s.done).1 : Nat) ∧ f = (stepC s.L s.done).2 ∧ takesB s p = true ∧ takesB s q = true ∧ takesB s r = true
    ∧ (f = true → pageAt s (3 * line.toNat) = p ∧ pageAt s (3 * line.toNat + 1) = q ∧ pageAt s (3 * line.toNat + 2) = r)
instance (s : St) (line : Int) (p q r : ByteArray) (f : Bool) : Decidable (TwoOk s line p q r f) := by unfold TwoOk; infer_instance
def put3 (s : St) (i : Nat) (p q r : ByteArray) (k a b : Int) : Nat → St
  | 0 => s
  | 1 => putSt s i (pageT p k a b) (hurtsB k)
  | 2 => putSt (putSt s i (pageT p k a b) (hurtsB k)) (i + 1) (pageT q k a b) (hurtsB k)
  | _ => putSt (putSt (putSt s i (pageT p k a b) (hurtsB k)) (i + 1) (pageT q k a b) (hurtsB k)) (i + 2) (pageT r k a b) (hurtsB k)
def twoSt (s : St) (line : Int) (p q r : ByteArray) (f : Bool) (k a b : Int) : St :=
  if TwoOk s line p q r f then endSt (put3 (stepSt s 2) (3 * line.toNat) p q r k a b 3) k else s
def twoC (s : St) (line : Int) (p q r : ByteArray) (f : Bool) (k : Int) : Int := if TwoOk s line p q r f then endC k else 80

/-- what page j is read as, and whether it is hurt already -/
def isFog (s : St) (j : Nat) : Bool := s.mode == 2 && afterC s.L s.done (j / 3) == 1
def atT (s : St) (j : Nat) : ByteArray :=
  if pageAt s j = ByteArray.empty then blankS s.Y else if s.hs.getD j false = true then pageAt s j else if isFog s j = true then hurtT (pageAt s j) 0 0 else pageAt s j
def atH (s : St) (j : Nat) : Bool :=
  if pageAt s j = ByteArray.empty then false else if s.hs.getD j false = true then true else isFog s j
def ReadOk (s : St) (line part : Int) : Prop := 0 ≤ line ∧ line < s.L ∧ 0 ≤ part ∧ part ≤ 2 ∧ ¬ (s.mode = 1 ∧ part ≠ 0)
instance (s : St) (line part : Int) : Decidable (ReadOk s line part) := by unfold ReadOk; infer_instance
def readT (s : St) (line part : Int) : ByteArray := if ReadOk s line part then atT s (3 * line.toNat + part.toNat) else ByteArray.empty
def readC (s : St) (line part : Int) : Int := if ReadOk s line part then 0 else 80

/-- the count of its mode is one more -/
def moreSt (s : St) : St := if s.mode = 2 then { s with tlc := s.tlc + 1 } else { s with slc := s.slc + 1 }
def ruinT (s : St) (a b k : Int) (j : Nat) : ByteArray := if atH s j = true then atT s j else pageT (atT s j) k a b
/-- the first n pages of s hurt, in the place of those of t -/
def ruinTo (s t : St) (a b k : Int) : Nat → St
  | 0 => t
  | n + 1 => putSt (ruinTo s t a b k n) n (ruinT s a b k n) true
def slcSt (s : St) : St := if s.mode = 0 then { s with mode := 1 } else s
def eraseSt (s : St) (k a b : Int) : St :=
  if s.bad = true then s
  else if hurtsB k = true then endSt (slcSt (ruinTo (moreSt s) (moreSt s) a b k (3 * s.L))) k
  else { newSt s.L s.Y with slc := (moreSt s).slc, tlc := (moreSt s).tlc }
def eraseC (s : St) (k : Int) : Int := if s.bad = true then 80 else endC k

/-- cells -/
def cv (s : St) (g c h d : Nat) : Array Value := #[.int .i64 s.L, .int .i64 s.Y, .int .i64 s.mode, .int .i64 s.done, .bool s.bad, .bool s.torn, .int .i64 s.slc, .int .i64 s.tlc, .slice (some ⟨g, 0, none⟩) (3 * s.L) c, .slice (some ⟨h, 0, none⟩) (3 * s.L) d]
/-- no cell -/
def zv : Array Value := #[.int .i64 0, .int .i64 0, .int .i64 0, .int .i64 0, .bool false, .bool false, .int .i64 0, .int .i64 0, .slice none 0 0, .slice none 0 0]
def fv (x k a b : Int) : Array Value := #[.int .i64 x, .int .i64 k, .int .i64 a, .int .i64 b]
/-- a slice whose cells lie in block g, from its front on -/
def RdSl (w : World) (g cap : Nat) (cs : List Value) : Prop := cs.length ≤ cap ∧ ∀ j, j < cs.length → w.cell? ⟨g, j, none⟩ = cs[j]?
def strs (l : List ByteArray) : List Value := l.map Value.string
def bls (l : List Bool) : List Value := l.map Value.bool
/-- the reference's value of a cell -/
def RAt (w : World) (s : St) (g c h d : Nat) : Prop := RdSl w g c (strs s.ps) ∧ RdSl w h d (bls s.hs)

theorem RdSl.keep {w w' : World} {g c : Nat} {cs : List Value} (h : RdSl w g c cs) (hg : w'.heap[g]? = w.heap[g]?) : RdSl w' g c cs := by
  obtain ⟨h2, h3⟩ := h
  refine ⟨h2, fun j hj => ?_⟩
  rw [← h3 j hj]
  simp only [World.cell?, hg]
theorem RdSl.lt {w : World} {g c : Nat} {cs : List Value} (h : RdSl w g c cs) (h0 : 0 < cs.length) : g < w.heap.size := by
  obtain ⟨h2, h3⟩ := h
  have h4 := h3 0 h0
  rw [List.getElem?_eq_getElem h0] at h4
  exact cell_lt h4
theorem RdSl.below {w w' : World} {B g c : Nat} {cs : List Value} (h : RdSl w g c cs) (hb : Below B w w') (hg : g < B) : RdSl w' g c cs := h.keep (hb.block g hg)
theorem strs_length (l : List ByteArray) : (strs l).length = l.length := by simp [strs]
theorem bls_length (l : List Bool) : (bls l).length = l.length := by simp [bls]
theorem strs_get (l : List ByteArray) (j : Nat) (h : j < l.length) : (strs l)[j]? = some (.string (l.getD j ByteArray.empty)) := by simp [strs, h]
theorem bls_get (l : List Bool) (j : Nat) (h : j < l.length) : (bls l)[j]? = some (.bool (l.getD j false)) := by simp [bls, h]
theorem RAt.lt {w : World} {s : St} {g c h d : Nat} (hr : RAt w s g c h d) (hw : WfSt s) : g < w.heap.size ∧ h < w.heap.size :=
  ⟨hr.1.lt (by rw [strs_length, hw.psl]; have := hw.l1; omega), hr.2.lt (by rw [bls_length, hw.hsl]; have := hw.l1; omega)⟩
theorem RAt.below {w w' : World} {s : St} {B g c h d : Nat} (hr : RAt w s g c h d) (hb : Below B w w') (hg : g < B) (hh : h < B) : RAt w' s g c h d := ⟨hr.1.below hb hg, hr.2.below hb hh⟩
theorem RAt.after {w w' : World} {s : St} {g c h d : Nat} (hr : RAt w s g c h d) (hw : WfSt s) (hb : Below w.heap.size w w') : RAt w' s g c h d := hr.below hb (hr.lt hw).1 (hr.lt hw).2
theorem RAt.keep {w w' : World} {s : St} {g c h d : Nat} (hr : RAt w s g c h d) (hg : w'.heap[g]? = w.heap[g]?) (hh : w'.heap[h]? = w.heap[h]?) : RAt w' s g c h d := ⟨hr.1.keep hg, hr.2.keep hh⟩
theorem RAt.page {w : World} {s : St} {g c h d : Nat} (hr : RAt w s g c h d) (hw : WfSt s) (j : Nat) (hj : j < 3 * s.L) : w.cell? ⟨g, j, none⟩ = some (.string (pageAt s j)) := by
  rw [hr.1.2 j (by rw [strs_length, hw.psl]; exact hj), strs_get _ _ (by rw [hw.psl]; exact hj)]; rfl
theorem RAt.mark {w : World} {s : St} {g c h d : Nat} (hr : RAt w s g c h d) (hw : WfSt s) (j : Nat) (hj : j < 3 * s.L) : w.cell? ⟨h, j, none⟩ = some (.bool (s.hs.getD j false)) := by
  rw [hr.2.2 j (by rw [bls_length, hw.hsl]; exact hj), bls_get _ _ (by rw [hw.hsl]; exact hj)]
/-- what each act leaves can be -/
theorem hurtT_size (p : ByteArray) (a b : Int) : (hurtT p a b).size = p.size := by
  unfold hurtT
  split
  · rfl
  · have h1 : first72 a < 72 := by unfold first72; omega
    have h2 : second72 a b < 72 := by unfold second72; omega
    have h3 : (flipS p (first72 a / 8) (first72 a % 8)).size = p.size := flipS_size _ _ _ (by omega)
    rw [flipS_size _ _ _ (by rw [h3]; omega), h3]
theorem pageT_size (p : ByteArray) (k a b : Int) : (pageT p k a b).size = p.size := by
  unfold pageT
  split
  · exact hurtT_size p a b
  · rfl
theorem getD_set_size {l : List ByteArray} {i j : Nat} {p : ByteArray} {m : Nat} (h : ∀ j, (l.getD j ByteArray.empty).size ≤ m) (hp : p.size ≤ m) : ((l.set i p).getD j ByteArray.empty).size ≤ m := by
  rw [List.getD_eq_getElem?_getD, List.getElem?_set]
  split
  · split
    · simpa using hp
    · simp
  · rw [← List.getD_eq_getElem?_getD]; exact h j
theorem putSt_wf {s : St} (h : WfSt s) (i : Nat) {p : ByteArray} (hb : Bool) (hp : p.size ≤ 400) : WfSt (putSt s i p hb) := by
  obtain ⟨h1, h2, h3, h4, h5, h6, h7, h8, h9, h10⟩ := h
  exact ⟨h1, h2, h3, h4, by simp [putSt, h5], by simp [putSt, h6], fun j => getD_set_size h7 hp, h8, h9, h10⟩
theorem endSt_wf {s : St} (h : WfSt s) (k : Int) : WfSt (endSt s k) := by
  unfold endSt
  split
  · obtain ⟨h1, h2, h3, h4, h5, h6, h7, h8, h9, h10⟩ := h
    exact ⟨h1, h2, h3, h4, h5, h6, h7, h8, h9, h10⟩
  · split
    · obtain ⟨h1, h2, h3, h4, h5, h6, h7, h8, h9, h10⟩ := h
      exact ⟨h1, h2, h3, h4, h5, h6, h7, h8, h9, h10⟩
    · exact h
theorem stepSt_wf {s : St} (h : WfSt s) {m : Int} (hm : m = 1 ∨ m = 2) (hd : s.done < 2 * s.L) : WfSt (stepSt s m) := by
  obtain ⟨h1, h2, h3, h4, h5, h6, h7, h8, h9, h10⟩ := h
  exact ⟨h1, h2, h3, by show s.done + 1 ≤ 2 * s.L; omega, h5, h6, h7, by rcases hm with rfl | rfl <;> simp [stepSt], h9, h10⟩
theorem rawOf_le {y : Nat} (h : LenOk y) : rawOf y ≤ 400 := by
  obtain ⟨h1, h2, h3⟩ := h
  unfold rawOf; omega
theorem takes_size {s : St} (h : WfSt s) {p : ByteArray} (ht : takesB s p = true) : p.size ≤ 400 := by
  have := rawOf_le h.y
  unfold takesB at ht
  simp at ht
  omega

end Go.Proofs.YtlijndkpgmbapaaGreatDoor

/- The reference of layer 5, walked: May, Rest, Hurt, Blank, Erased. -/
namespace Go.Proofs.YtlijndkpgmbapaaGreatDoor
set_option maxRecDepth 100000
open Go.RowKit

end Go.Proofs.YtlijndkpgmbapaaGreatDoor

/- The reference of layer 5, walked: Blank, Erased. -/
namespace Go.Proofs.YtlijndkpgmbapaaGreatDoor
set_option maxRecDepth 100000
open Go.RowKit

end Go.Proofs.YtlijndkpgmbapaaGreatDoor

/- A block of the call's own, whole: what a world holds in it, behind new blocks, calls, stores. -/
namespace Go.Proofs.YtlijndkpgmbapaaGreatDoor
open Go.RowKit

/-- block b holds these cells, and may be written -/
def Blk (w : World) (b : Nat) (cs : Array Value) (t : TypeId) : Prop := w.heap[b]? = some (.cells cs t (0, 0))
theorem Blk.lt {w : World} {b : Nat} {cs : Array Value} {t : TypeId} (h : Blk w b cs t) : b < w.heap.size := (Array.getElem?_eq_some_iff.1 h).1
theorem Blk.new (w : World) (cs : Array Value) (t : TypeId) : Blk (w.alloc (.cells cs t)) w.heap.size cs t := heap_alloc_new _ _
theorem Blk.alloc {w : World} {b : Nat} {cs : Array Value} {t : TypeId} (h : Blk w b cs t) (o : Obj) : Blk (w.alloc o) b cs t := by
  have hb := h.lt
  unfold Blk at *
  (first | rw [heap_alloc_old _ _ hb] | rw [heap_alloc_old _ _ _ hb]); exact h
theorem Blk.drew {w : World} {b : Nat} {cs : Array Value} {t : TypeId} (h : Blk w b cs t) : Blk w.drew b cs t := h
theorem Blk.drewN {w : World} {b n : Nat} {cs : Array Value} {t : TypeId} (h : Blk w b cs t) : Blk (w.drewN n) b cs t := h
theorem Blk.below {w w' : World} {b B : Nat} {cs : Array Value} {t : TypeId} (h : Blk w b cs t) (hb : Below B w w') (hB : b < B) : Blk w' b cs t := by
  unfold Blk at *
  rw [hb.block b hB]; exact h
theorem Blk.after {w w' : World} {b : Nat} {cs : Array Value} {t : TypeId} (h : Blk w b cs t) (hb : Below w.heap.size w w') : Blk w' b cs t := h.below hb h.lt
theorem Blk.cell {w : World} {b : Nat} {cs : Array Value} {t : TypeId} (h : Blk w b cs t) (i : Nat) : w.cell? ⟨b, i, none⟩ = cs[i]? := by
  unfold Blk at h; simp [World.cell?, h]
theorem Blk.free {w : World} {b : Nat} {cs : Array Value} {t : TypeId} (h : Blk w b cs t) (i : Nat) : w.frozen? ⟨b, i, none⟩ = false := by
  unfold Blk at h; simp [World.frozen?, h]
theorem Blk.set {w : World} {b : Nat} {cs ds : Array Value} {t : TypeId} (h : Blk w b cs t) (i : Nat) (v : Value) (he : cs.setIfInBounds i v = ds) : Blk (w.setCell ⟨b, i, none⟩ v) b ds t := by
  unfold Blk at *
  rw [heap_setCell_same _ _ _ _ _ _ h, he]
theorem Blk.set_other {w : World} {b c : Nat} {cs : Array Value} {t : TypeId} (h : Blk w b cs t) (hne : c ≠ b) (i : Nat) (v : Value) : Blk (w.setCell ⟨c, i, none⟩ v) b cs t := by
  unfold Blk at *
  rw [Below.heap_setCell _ _ _ _ (Ne.symm hne)]; exact h
theorem Blk.put {w : World} {b : Nat} {cs : Array Value} {t : TypeId} (h : Blk w b cs t) (ds : Array Value) : Blk (w.setRow b ds) b ds t := by
  unfold Blk at *
  exact setRow_heap w b cs ds _ _ h
theorem Blk.put_other {w : World} {b c : Nat} {cs : Array Value} {t : TypeId} (h : Blk w b cs t) (hne : c ≠ b) (ds : Array Value) : Blk (w.setRow c ds) b cs t := by
  unfold Blk at *
  simp only [World.setRow, Array.getElem?_modify]
  rw [if_neg hne]; exact h
theorem below_put {B g : Nat} {a w : World} (hB : B ≤ g) (cs : Array Value) (h : Below B a w) : Below B a (w.setRow g cs) := by
  have hk : ∀ k, k < B → (w.setRow g cs).heap[k]? = w.heap[k]? := by
    intro k hk
    simp only [World.setRow, Array.getElem?_modify]
    rw [if_neg (by omega)]
  obtain ⟨h1, h2, h3, h4, h5⟩ := h
  exact ⟨h1, h2, h3, by rw [size_setRow]; exact h4, fun k hk2 => by rw [hk k hk2]; exact h5 k hk2⟩

/-- a whole row out of a variable, at an operation that is guarded -/
theorem wpList_load_row_if {P : Program} {ops : Array Oper} {rest : List Oper} {o : Oper} {a : Act} {w : World} {Q : Exit → Act → World → Prop} (hw : Region.wanted o (yielded ops a.tmps) = true) (ty : TypeId) (x : Operand) (ho : o.op = .load ty x)
    (g : Nat) (hx : a.eval x = .pointer (some ⟨g, 0, none⟩)) (t : TypeId) (cs : Array Value) (fr : Nat × Nat) (d : TypeDesc) (hg : w.heap[g]? = some (.cells cs t fr))
    (hu : P.underlying ty = some d) (hd : (match d with | .struct _ | .array _ _ => true | _ => false) = true) (hi : (P.info? ty).map (·.size) = some cs.size)
    (h : wpList P ops Q rest (a.put o.dst (.agg cs)) w) : wpList P ops Q (o :: rest) a w := by
  unfold wpList
  rw [if_pos hw]
  exact Or.inl (wp_load_row ty x ho g hx t cs fr d hg hu hd hi h)

/-- what a function of two results gives, the first in a block of its own -/
theorem results_cell_tmp {P : Program} {fn : Func} {p q : Tmp} {ty : TypeId} (h : fn.results = #[.cell p ty, .tmp q]) (tmps : Array Value) (w : World) (g : Nat) (t : TypeId) (cs : Array Value) (d : TypeDesc)
    (hp : tmps.getD p undef = .pointer (some ⟨g, 0, none⟩)) (hg : Blk w g cs t)
    (hu : P.underlying ty = some d) (hd : (match d with | .struct _ | .array _ _ => true | _ => false) = true) (hi : (P.info? ty).map (·.size) = some cs.size) :
    (results fn tmps).run P w = .ok (.tuple #[.agg cs, tmps.getD q undef]) w := by
  have hp' : tmps[p]?.getD undef = .pointer (some ⟨g, 0, none⟩) := by simpa using hp
  simp [results, h, hp', asAddr, run_loadVar_row w g t ty cs (0, 0) d hg hu hd hi]

end Go.Proofs.YtlijndkpgmbapaaGreatDoor

/- The reference of layer 7, walked: Steps. -/
namespace Go.Proofs.YtlijndkpgmbapaaGreatDoor
set_option maxRecDepth 100000
open Go.RowKit

/-- a slice of steps of the call's own -/
def OwnSteps (w : World) (B : Nat) (v : Value) (l : List (Nat × Bool)) : Prop := w.ownsRow B 135 2 v l.length (cellsS l)

theorem refTo_succ (k : Nat) (h : 1 ≤ k) : refTo (k + 1) = refTo k ++ [(k, false), (k - 1, true)] := by
  obtain ⟨j, rfl⟩ : ∃ j, k = j + 1 := ⟨k - 1, by omega⟩
  rfl
end Go.Proofs.YtlijndkpgmbapaaGreatDoor

/- The reference of layer 7, walked: At. -/
namespace Go.Proofs.YtlijndkpgmbapaaGreatDoor
set_option maxRecDepth 100000
open Go.RowKit

/-- what the cells of a slice of steps hold -/
theorem OwnSteps.at {w : World} {B : Nat} {v : Value} {l : List (Nat × Bool)} (h : OwnSteps w B v l) (h1 : 1 ≤ l.length) : ∃ g cap, v = .slice (some ⟨g, 0, none⟩) l.length cap ∧ l.length ≤ cap ∧
    ∀ k, k < l.length → w.cell? ⟨g, k * 2, none⟩ = some (.int .i64 ((l.getD k (0, false)).1 : Nat)) ∧ w.cell? ⟨g, k * 2 + 1, none⟩ = some (.bool (l.getD k (0, false)).2) := by
  have hown := h
  unfold OwnSteps at hown
  rcases hown.2 with ⟨_, h0⟩ | ⟨g, cap, cur, rfl, _, _, hc, _, _, _⟩
  · omega
  · refine ⟨g, cap, rfl, hc, fun k hk => ⟨?_, ?_⟩⟩
    · have := hown.cells (g := g) rfl (2 * k) _ (cellsS_line l k hk)
      rw [Nat.mul_comm 2 k] at this
      cases k with
      | zero => simpa [Addr.add] using this
      | succ k => simpa [Addr.add] using this
    · have := hown.cells (g := g) rfl (2 * k + 1) _ (cellsS_fine l k hk)
      rw [Nat.mul_comm 2 k] at this
      simpa [Addr.add] using this

theorem size_step : (Tryz.prog.info? 135).map (·.size) = some 2 := by kernel_rfl

theorem sv_one (l : Int) (f : Bool) : (sv l f).all (·.oneCell') = true := by
  rw [Array.all_eq_true_iff_forall_mem]
  intro v hv
  simp [sv] at hv
  rcases hv with rfl | rfl <;> rfl

end Go.Proofs.YtlijndkpgmbapaaGreatDoor

/- The reference of layer 7, walked: Place, After. -/
namespace Go.Proofs.YtlijndkpgmbapaaGreatDoor
set_option maxRecDepth 100000
open Go.RowKit

theorem drewN_below2 (B : Nat) (w : World) (n : Nat) : Below B w (w.drewN n) := ⟨rfl, rfl, rfl, Nat.le_refl _, fun _ _ => rfl⟩
/-- two steps compared -/
def sameS (l : Int) (f : Bool) (l' : Int) (f' : Bool) : Bool := l == l' && f == f'
theorem run_equalIn_bool (n : Nat) (f f' : Bool) (w : World) : Sem.run Tryz.prog (Op.equalIn (n + 1) 4 (.bool f) (.bool f')) w = .ok (f == f') w := by
  simp [Op.equalIn, run_underlying Tryz.underlying4]
theorem eql_step (l l' : Int) (f f' : Bool) (w : World) : Sem.run Tryz.prog (binOp .eql 135 (.agg #[.int .i64 l, .bool f]) (.agg #[.int .i64 l', .bool f'])) w = .ok (.bool (sameS l f l' f')) w := by
  rw [run_eql_struct, run_equalIn_agg _ _ _ _ _ (by kernel_rfl) (by kernel_rfl)]
  simp only [Program.fieldsOf, Tryz.underlying135]
  simp [Op.eqFields, part, isAgg, run_underlying Tryz.underlying3, run_underlying Tryz.underlying4, run_equalIn_int _ _ _ _ _ _ _ Tryz.underlying3, run_equalIn_bool, sameS]
  by_cases h1 : l = l' <;> cases f <;> cases f' <;> simp [h1]
theorem sameS_iff (l l' : Int) (f f' : Bool) : sameS l f l' f' = true ↔ l = l' ∧ f = f' := by simp [sameS]

end Go.Proofs.YtlijndkpgmbapaaGreatDoor

/- The reference of layer 7, walked: After. -/
namespace Go.Proofs.YtlijndkpgmbapaaGreatDoor
set_option maxRecDepth 100000
open Go.RowKit

end Go.Proofs.YtlijndkpgmbapaaGreatDoor

/- A region that draws its order, by a fact of each operation's value that stays true whatever comes after it: no order is looked at. -/
namespace Go.Proofs.YtlijndkpgmbapaaGreatDoor

section
variable {P : Program} {ops : Array Oper} {Q : Exit → Act → World → Prop} {md : Region.Mode}

/-- how many are still to come -/
def still (n : Nat) (listed : Array Bool) : Nat := ((List.range n).filter fun i => !listed.getD i true).length

theorem still_zero {n : Nat} {listed : Array Bool} (h : still n listed = 0) : ∀ i, i < n → listed.getD i true = true := by
  intro i hi
  have h2 : (List.range n).filter (fun i => !listed.getD i true) = [] := List.eq_nil_of_length_eq_zero h
  have h3 := List.filter_eq_nil_iff.1 h2 i (List.mem_range.2 hi)
  simpa using h3
theorem filter_less {α : Type} (l : List α) (p q : α → Bool) (hpq : ∀ x, x ∈ l → q x = true → p x = true) (x : α) (hx : x ∈ l) (hp : p x = true) (hq : q x = false) : (l.filter q).length < (l.filter p).length := by
  induction l with
  | nil => cases hx
  | cons y l ih =>
    have hle : (l.filter q).length ≤ (l.filter p).length := by
      clear ih hx
      induction l with
      | nil => exact Nat.le_refl _
      | cons z l ih2 =>
        have hz := hpq z (by simp)
        have ih3 := ih2 (fun x hx => hpq x (by simp at hx ⊢; rcases hx with h | h <;> simp [h]))
        cases hq' : q z with
        | true => simp [hq', hz hq']; exact ih3
        | false => cases hp' : p z <;> simp [hq', hp'] <;> omega
    rcases List.mem_cons.1 hx with rfl | hx
    · simp [hp, hq]; omega
    · have ih4 := ih (fun z hz => hpq z (List.mem_cons_of_mem _ hz)) hx
      cases hq' : q y with
      | true => simp [hq', hpq y (by simp) hq']; exact ih4
      | false => cases hp' : p y <;> simp [hq', hp'] <;> omega
theorem still_less {n i : Nat} {listed : Array Bool} (hi : i < n) (h : listed.getD i true = false) : still n (listed.setIfInBounds i true) < still n listed := by
  unfold still
  refine filter_less _ _ _ ?_ i (List.mem_range.2 hi) (by simp [h]) ?_
  · intro x _ hx
    by_cases e : i = x
    · subst e
      have hs : i < listed.size := by
        rcases Nat.lt_or_ge i listed.size with h' | h'
        · exact h'
        · simp [Array.getD, Nat.not_lt.2 h'] at h
      simp [Array.getD, hs] at hx
    · simp [getD_set_ne true e] at hx ⊢; exact hx
  · have hs : i < listed.size := by
      rcases Nat.lt_or_ge i listed.size with h' | h'
      · exact h'
      · simp [Array.getD, Nat.not_lt.2 h'] at h
    simp [Array.getD, hs]


/-- every operation waits for earlier ones alone, and has a temporary of its own -/
structure Plain (ops : Array Oper) (Base : Act → Prop) : Prop where
  before : ∀ (i : Nat) (o : Oper), ops[i]? = some o → ∀ e ∈ o.after, e.on < i
  own : ∀ (i : Nat) (o : Oper), ops[i]? = some o → ∃ d, o.dst = some d ∧ (∀ a, Base a → d < a.tmps.size) ∧ ∀ (j : Nat) (o' : Oper), ops[j]? = some o' → j ≠ i → ∃ d', o'.dst = some d' ∧ d ≠ d'

/-- a fact of each operation, one by one -/
def AllFrom (X : Nat → Oper → Prop) : Nat → List Oper → Prop
  | _, [] => True
  | k, o :: l => X k o ∧ AllFrom X (k + 1) l
theorem AllFrom.at {X : Nat → Oper → Prop} : ∀ {l : List Oper} {k : Nat}, AllFrom X k l → ∀ j o, l[j]? = some o → X (k + j) o
  | [], _, _, j, o, h => by simp at h
  | p :: l, k, h, 0, o, ho => by simp at ho; subst ho; exact h.1
  | p :: l, k, h, j + 1, o, ho => by
    have := AllFrom.at h.2 j o (by simpa using ho)
    rwa [show k + 1 + j = k + (j + 1) by omega] at this
theorem AllFrom.all {X : Nat → Oper → Prop} {l : List Oper} (h : AllFrom X 0 l) : ∀ (i : Nat) (o : Oper), l.toArray[i]? = some o → X i o := fun i o ho => by
  have := AllFrom.at h i o (by simpa using ho)
  rwa [Nat.zero_add] at this
end
end Go.Proofs.YtlijndkpgmbapaaGreatDoor

/- A region that draws its order, by facts of the frame and the world that each operation leaves, and that stay true whatever comes after it: no order is looked at; operations without a temporary (stores) too. -/
namespace Go.Proofs.YtlijndkpgmbapaaGreatDoor

section
variable {P : Program} {ops : Array Oper} {Q : Exit → Act → World → Prop} {md : Region.Mode}

theorem put_slot {a : Act} {d : Option Tmp} {v : Value} {s : Tmp} (h : ∀ x, d = some x → x ≠ s) : (a.put d v).tmps.getD s undef = a.tmps.getD s undef := by
  cases d with
  | none => rfl
  | some x => simp [Act.put, Array.getD_eq_getD_getElem?, Array.getElem?_setIfInBounds_ne (h x rfl)]

theorem wpAny_facts2 {Base : Act → Prop} {C : World → Prop} {T : World → World → Prop} {R : Nat → Act → World → Prop} {S : Nat → List Tmp}
    (hbefore : ∀ (i : Nat) (o : Oper), ops[i]? = some o → ∀ e ∈ o.after, Region.binds md e = true → e.on < i)
    (hslots : ∀ (i j : Nat) (o o' : Oper), ops[i]? = some o → ops[j]? = some o' → j ≠ i → (∀ e ∈ o'.after, Region.binds md e = true → e.on ≠ i) → ∀ d, o.dst = some d → d ∉ S j)
    (hext : ∀ j a a' w w', R j a w → (∀ s ∈ S j, a'.tmps.getD s undef = a.tmps.getD s undef) → T w w' → R j a' w')
    (hbase : ∀ (i : Nat) (o : Oper), ops[i]? = some o → ∀ a v, Base a → Base (a.put o.dst v))
    (hops : ∀ (i : Nat) (o : Oper), ops[i]? = some o → ∀ a w, C w → Base a → (∀ e ∈ o.after, Region.binds md e = true → R e.on a w) →
      wpOp P ops Q i (fun a' w' => ∃ v, a' = a.put o.dst v ∧ C w' ∧ T w w' ∧ R i a' w') a w)
    (hfin : ∀ a w, C w → Base a → (∀ i, i < ops.size → R i a w) → Q .normal a w) :
    ∀ (fuel : Nat) (listed : Array Bool) (a : Act) (w : World), still ops.size listed ≤ fuel → listed.size = ops.size → C w → Base a →
      (∀ i, i < ops.size → listed.getD i true = true → R i a w ∧ ∀ o, ops[i]? = some o → ∀ e ∈ o.after, Region.binds md e = true → listed.getD e.on true = true) → wpAny P md ops Q fuel listed a w := by
  have all : ∀ (listed : Array Bool), listed.size = ops.size → Region.ready md ops listed = [] → ∀ i, i < ops.size → listed.getD i true = true := by
    intro listed hsz hr i
    induction i using Nat.strongRecOn with
    | ind i ih =>
      intro hi
      cases hl : listed.getD i true with
      | true => rfl
      | false =>
        exfalso
        have hm : i ∈ Region.ready md ops listed := by
          rw [mem_ready]
          refine ⟨hl, ops[i], by simp [hi], fun e he hb => ?_⟩
          have hlt := hbefore i ops[i] (by simp [hi]) e he hb
          have h2 := ih e.on hlt (by omega)
          have h3 : e.on < listed.size := by omega
          simp [Array.getD, h3] at h2 ⊢
          exact h2
        rw [hr] at hm; cases hm
  intro fuel
  induction fuel with
  | zero =>
    intro listed a w hst hsz hC hB hR
    have hall := still_zero (Nat.le_zero.1 hst)
    have hr : Region.ready md ops listed = [] := by
      cases h : Region.ready md ops listed with
      | nil => rfl
      | cons i l =>
        have hm : i ∈ Region.ready md ops listed := by rw [h]; exact List.mem_cons_self
        obtain ⟨h1, o, ho, _⟩ := mem_ready.1 hm
        have hi : i < ops.size := (Array.getElem?_eq_some_iff.1 ho).1
        rw [hall i hi] at h1; cases h1
    exact ⟨hr, hfin a w hC hB fun i hi => (hR i hi (hall i hi)).1⟩
  | succ fuel ih =>
    intro listed a w hst hsz hC hB hR
    refine ⟨fun hr => hfin a w hC hB fun i hi => (hR i hi (all listed hsz hr i hi)).1, fun i hi => ?_⟩
    obtain ⟨h1, o, ho, hdeps⟩ := mem_ready.1 hi
    have hin : i < ops.size := (Array.getElem?_eq_some_iff.1 ho).1
    have hdl : ∀ e ∈ o.after, Region.binds md e = true → listed.getD e.on true = true := by
      intro e he hb
      have hlt := hbefore i o ho e he hb
      have h2 := hdeps e he hb
      have h3 : e.on < listed.size := by omega
      simp [Array.getD, h3] at h2 ⊢
      exact h2
    refine wpOp_mono ?_ (hops i o ho a w hC hB fun e he hb => (hR e.on (by have := hbefore i o ho e he hb; omega) (hdl e he hb)).1)
    rintro a' w' ⟨v, rfl, hC', hT, hRv⟩
    have hless := still_less hin h1
    have keep : ∀ k, listed.getD k true = true → (listed.setIfInBounds i true).getD k true = true := by
      intro k hk
      by_cases e : k = i
      · subst e
        have hs : k < listed.size := by omega
        simp [Array.getD, hs]
      · rw [getD_set_ne true (Ne.symm e)]; exact hk
    refine ih _ _ _ (by omega) (by simp [hsz]) hC' (hbase i o ho a v hB) fun j hj hlj => ?_
    by_cases e : j = i
    · subst e
      refine ⟨hRv, fun o' ho' e he hb => keep _ ?_⟩
      obtain rfl : o' = o := Option.some.inj (ho'.symm.trans ho)
      exact hdl e he hb
    · rw [getD_set_ne true (Ne.symm e)] at hlj
      obtain ⟨hRj, hdj⟩ := hR j hj hlj
      refine ⟨hext j a _ w w' hRj (fun s hs => put_slot fun x hx hxs => ?_) hT, fun o' ho' e he hb => keep _ (hdj o' ho' e he hb)⟩
      subst hxs
      refine hslots i j o ops[j] ho (by simp [hj]) e (fun e' he' hb' hne => ?_) x hx hs
      have := hdj ops[j] (by simp [hj]) e' he' hb'
      rw [hne, h1] at this; cases this

/-- the two conditions on the list, as a Bool -/
def planB (l : List Oper) (S : List (List Tmp)) : Bool :=
  (List.range l.length).all fun i => match l[i]? with
    | none => true
    | some o => (o.after.all fun e => !Region.binds .any e || decide (e.on < i)) && (match o.dst with
      | none => true
      | some d => (List.range l.length).all fun j => j == i || (match l[j]? with
        | some o' => (o'.after.any fun e => Region.binds .any e && e.on == i) || !(S.getD j []).contains d
        | none => true))
theorem if_yes {c : Bool} {A B : Prop} (h : c = true) (hA : A) : if c = true then A else B := by rw [if_pos h]; exact hA
theorem if_no {c : Bool} {A B : Prop} (h : c = false) (hB : B) : if c = true then A else B := by rw [h]; exact hB
/-- what an operation leaves: its slot written, the world in the class and gone on, its own fact -/
def Leaves (C : World → Prop) (T : World → World → Prop) (R : Nat → Act → World → Prop) (i : Nat) (o : Oper) (a : Act) (w : World) (a' : Act) (w' : World) : Prop := ∃ v, a' = a.put o.dst v ∧ C w' ∧ T w w' ∧ R i a' w'
/-- .. where operations may be guarded: an operation that is not wanted leaves its slot undefined -/
theorem wp_region_list3 {id : Nat} {l : List Oper} {a : Act} {w : World} (S : List (List Tmp)) (Base : Act → Prop) (C : World → Prop) (T : World → World → Prop) (R : Nat → Act → World → Prop) (hm : P.follows .mixedOrders = true)
    (hpl : planB l S = true) (hext : ∀ j a a' w w', R j a w → (∀ s ∈ S.getD j [], a'.tmps.getD s undef = a.tmps.getD s undef) → T w w' → R j a' w')
    (hbase : AllFrom (fun _ o => ∀ a v, Base a → Base (a.put o.dst v)) 0 l) (hC : C { w with drawn := w.drawn + 1 }) (hB : Base a)
    (hops : AllFrom (fun i o => ∀ a w, C w → Base a → (∀ e ∈ o.after, Region.binds .any e = true → R e.on a w) →
      if Region.wanted o (yielded l.toArray a.tmps) = true then o.wp P a w (Leaves C T R i o a w) Q
      else Leaves C T R i o a w (a.put o.dst undef) w) 0 l)
    (hfin : ∀ a w, C w → Base a → (∀ i, i < l.length → R i a w) → Q .normal a w) : (Code.region id l.toArray true).wp P Q a w := by
  have hp := List.all_eq_true.1 hpl
  refine wp_region_any hm (wpAny_facts2 (S := fun j => S.getD j []) (Base := Base) (C := C) (T := T) (R := R) ?_ ?_ hext hbase.all
    (fun i o ho a w h1 h2 h3 => ?_)
    (fun a w h1 h2 h3 => hfin a w h1 h2 fun i hi => h3 i (by simpa using hi)) _ _ _ _ ?_ (by simp) hC hB ?_)
  · intro i o ho e he hb
    have ho' : l[i]? = some o := by simpa using ho
    have h1 := hp i (List.mem_range.2 (List.getElem?_eq_some_iff.1 ho').1)
    simp only [ho', Bool.and_eq_true] at h1
    have h2 := (Array.all_eq_true_iff_forall_mem.1 h1.1) e he
    simpa [hb] using h2
  · intro i j o o' ho ho' hne hno d hd
    have hi : l[i]? = some o := by simpa using ho
    have hj : l[j]? = some o' := by simpa using ho'
    have h1 := hp i (List.mem_range.2 (List.getElem?_eq_some_iff.1 hi).1)
    simp only [hi, hd, Bool.and_eq_true] at h1
    have h2 := List.all_eq_true.1 h1.2 j (List.mem_range.2 (List.getElem?_eq_some_iff.1 hj).1)
    simp only [hj, Bool.or_eq_true, beq_iff_eq] at h2
    rcases h2 with h2 | h2 | h2
    · exact absurd h2 hne
    · obtain ⟨k, hk, hb⟩ := Array.any_eq_true.1 h2
      obtain ⟨e, he⟩ : ∃ e, e = o'.after[k] := ⟨_, rfl⟩
      rw [← he] at hb
      have he : e ∈ o'.after := by rw [he]; exact Array.getElem_mem hk
      simp only [Bool.and_eq_true, beq_iff_eq] at hb
      exact absurd hb.2 (hno e he hb.1)
    · intro hm
      simp at h2
      exact h2 hm
  · have h4 := hops.all i o ho a w h1 h2 h3
    unfold wpOp
    simp only [ho]
    by_cases hw : Region.wanted o (yielded l.toArray a.tmps) = true
    · rw [if_pos hw] at h4 ⊢
      exact Or.inl h4
    · rw [if_neg hw] at h4 ⊢
      exact h4
  · unfold still
    exact Nat.le_trans (List.length_filter_le _ _) (by simp)
  · intro i hi h
    have hi' : i < l.length := by simpa using hi
    simp [Array.getD] at h
    omega

end
end Go.Proofs.YtlijndkpgmbapaaGreatDoor

/- Facts of a drawn region's operations: a value in a slot each, or a fact of one's own. -/
namespace Go.Proofs.YtlijndkpgmbapaaGreatDoor
open Go.RowKit

/-- operation j has left this value in this slot; where the list says nothing: Sp -/
def RV (vs : List (Option (Tmp × Value))) (Sp : Nat → Act → World → Prop) (j : Nat) (a : Act) (w : World) : Prop :=
  match vs[j]? with
  | some (some (d, v)) => a.tmps.getD d undef = v
  | some none => Sp j a w
  | none => True
/-- the slots that a fact looks at -/
def SV (vs : List (Option (Tmp × Value))) (sp : List Tmp) : List (List Tmp) := vs.map fun o => match o with
  | some (d, _) => [d]
  | none => sp
theorem RV.ext {vs : List (Option (Tmp × Value))} {sp : List Tmp} {Sp : Nat → Act → World → Prop} {T : World → World → Prop}
    (hsp : ∀ j a a' w w', Sp j a w → (∀ d ∈ sp, a'.tmps.getD d undef = a.tmps.getD d undef) → T w w' → Sp j a' w') :
    ∀ j a a' w w', RV vs Sp j a w → (∀ s ∈ (SV vs sp).getD j [], a'.tmps.getD s undef = a.tmps.getD s undef) → T w w' → RV vs Sp j a' w' := by
  intro j a a' w w' h hd hT
  unfold RV at *
  rw [List.getD_eq_getElem?_getD] at hd
  cases hj : vs[j]? with
  | none => trivial
  | some o =>
    rw [hj] at h
    cases o with
    | none => exact hsp j a a' w w' h (fun d hm => hd d (by simp [SV, hj]; exact hm)) hT
    | some p => exact (hd p.1 (by simp [SV, hj])).trans h

/-- a world goes on: nothing that was there turns -/
def Goes (w w' : World) : Prop := Below w.heap.size w w'
theorem Goes.refl (w : World) : Goes w w := Below.refl _ _

end Go.Proofs.YtlijndkpgmbapaaGreatDoor

/- The reference of layer 8, walked: hurts, page, takes, ends, New. -/
namespace Go.Proofs.YtlijndkpgmbapaaGreatDoor
set_option maxRecDepth 100000
open Go.RowKit

theorem size_fault : (Tryz.prog.info? 40).map (·.size) = some 4 := by kernel_rfl
end Go.Proofs.YtlijndkpgmbapaaGreatDoor

/- The reference of layer 8, walked: ends, New. -/
namespace Go.Proofs.YtlijndkpgmbapaaGreatDoor
set_option maxRecDepth 100000
open Go.RowKit

theorem blk_third (w : World) (A B : Obj) (cs : Array Value) (t : TypeId) : Blk (((w.alloc A).alloc B).alloc (.cells cs t)) (w.heap.size + 1 + 1) cs t := by
  have h := Blk.new ((w.alloc A).alloc B) cs t
  rwa [World.size_alloc, World.size_alloc] at h
end Go.Proofs.YtlijndkpgmbapaaGreatDoor

/- The reference of layer 8, walked: New. -/
namespace Go.Proofs.YtlijndkpgmbapaaGreatDoor
set_option maxRecDepth 100000
open Go.RowKit

end Go.Proofs.YtlijndkpgmbapaaGreatDoor

/- The reference of layer 8, walked: put. -/
namespace Go.Proofs.YtlijndkpgmbapaaGreatDoor
set_option maxRecDepth 100000
open Go.RowKit

theorem setRow_heap_ne (w : World) (b g : Nat) (cs : Array Value) (h : b ≠ g) : (w.setRow b cs).heap[g]? = w.heap[g]? := by
  simp only [World.setRow, Array.getElem?_modify]
  rw [if_neg h]
end Go.Proofs.YtlijndkpgmbapaaGreatDoor

/- Cells in a drawn region: what a slot, or a block, holds, while calls and one store of a cell come in any order. -/
namespace Go.Proofs.YtlijndkpgmbapaaGreatDoor
set_option maxRecDepth 100000
open Go.RowKit

/-- the slots that a fact looks at, those of a fact of one's own by the operation's number -/
def SV2 (vs : List (Option (Tmp × Value))) (f : Nat → List Tmp) : List (List Tmp) := vs.mapIdx fun j o => match o with
  | some (d, _) => [d]
  | none => f j
theorem RV.ext2 {vs : List (Option (Tmp × Value))} {f : Nat → List Tmp} {Sp : Nat → Act → World → Prop} {T : World → World → Prop}
    (hsp : ∀ j a a' w w', Sp j a w → (∀ d ∈ f j, a'.tmps.getD d undef = a.tmps.getD d undef) → T w w' → Sp j a' w') :
    ∀ j a a' w w', RV vs Sp j a w → (∀ s ∈ (SV2 vs f).getD j [], a'.tmps.getD s undef = a.tmps.getD s undef) → T w w' → RV vs Sp j a' w' := by
  intro j a a' w w' h hd hT
  unfold RV at *
  rw [List.getD_eq_getElem?_getD] at hd
  cases hj : vs[j]? with
  | none => trivial
  | some o =>
    rw [hj] at h
    cases o with
    | none => exact hsp j a a' w w' h (fun d hm => hd d (by simp [SV2, hj]; exact hm)) hT
    | some p => exact (hd p.1 (by simp [SV2, hj])).trans h
/-- slot x holds the reference's value of s, its slices in blocks from base on -/
def SlotC (x : Tmp) (s : St) (base : Nat) (a : Act) (w : World) : Prop := ∃ g c h d, a.tmps.getD x undef = .agg (cv s g c h d) ∧ RAt w s g c h d ∧ base ≤ g ∧ base ≤ h
def SlotP (x : Tmp) (s : St) (ec : Int) (base : Nat) (a : Act) (w : World) : Prop := ∃ g c h d, a.tmps.getD x undef = .tuple #[.agg (cv s g c h d), .int .i64 ec] ∧ RAt w s g c h d ∧ base ≤ g ∧ base ≤ h
/-- block R holds it -/
def GoodC (R : Nat) (s : St) (base : Nat) (w : World) : Prop := ∃ g c h d, Blk w R (cv s g c h d) 76 ∧ RAt w s g c h d ∧ base ≤ g ∧ base ≤ h
def TG (R : Nat) (s : St) (base : Nat) (w w' : World) : Prop := (∀ b, b < w.heap.size → b ≠ R → w'.heap[b]? = w.heap[b]?) ∧ (GoodC R s base w → GoodC R s base w')
theorem TG.refl (R : Nat) (s : St) (base : Nat) (w : World) : TG R s base w w := ⟨fun _ _ _ => rfl, id⟩
theorem GoodC.after {R base : Nat} {s : St} {w w' : World} (h : GoodC R s base w) (hw : WfSt s) (hb : Below w.heap.size w w') : GoodC R s base w' := by
  obtain ⟨g, c, h', d, h1, h2, h3, h4⟩ := h
  exact ⟨g, c, h', d, h1.after hb, h2.after hw hb, h3, h4⟩
theorem TG.call {R base : Nat} {s : St} {w w' : World} (hw : WfSt s) (hb : Below w.heap.size w w') : TG R s base w w' := ⟨fun b hlt _ => hb.block b hlt, fun h => h.after hw hb⟩
theorem RAt.tg {R base : Nat} {s0 s : St} {w w' : World} {g c h d : Nat} (hr : RAt w s g c h d) (hw : WfSt s) (hg : base ≤ g) (hh : base ≤ h) (hR : R < base) (hT : TG R s0 base w w') : RAt w' s g c h d :=
  hr.keep (hT.1 g (hr.lt hw).1 (by omega)) (hT.1 h (hr.lt hw).2 (by omega))
theorem SlotC.ext {x : Tmp} {s s0 : St} {base R : Nat} {a a' : Act} {w w' : World} (hw : WfSt s) (hR : R < base) (h : SlotC x s base a w) (hx : a'.tmps.getD x undef = a.tmps.getD x undef) (hT : TG R s0 base w w') : SlotC x s base a' w' := by
  obtain ⟨g, c, h', d, h1, h2, h3, h4⟩ := h
  exact ⟨g, c, h', d, hx.trans h1, h2.tg hw h3 h4 hR hT, h3, h4⟩
theorem SlotP.ext {x : Tmp} {s s0 : St} {ec : Int} {base R : Nat} {a a' : Act} {w w' : World} (hw : WfSt s) (hR : R < base) (h : SlotP x s ec base a w) (hx : a'.tmps.getD x undef = a.tmps.getD x undef) (hT : TG R s0 base w w') : SlotP x s ec base a' w' := by
  obtain ⟨g, c, h', d, h1, h2, h3, h4⟩ := h
  exact ⟨g, c, h', d, hx.trans h1, h2.tg hw h3 h4 hR hT, h3, h4⟩
theorem TG.put {R base : Nat} {s : St} {w : World} (cs : Array Value) (h : GoodC R s base (w.setRow R cs)) : TG R s base w (w.setRow R cs) := ⟨fun b _ hne => setRow_heap_ne _ _ _ _ (by omega), fun _ => h⟩

/-- the world while such a region runs: the cell that came in lies in block B, how it goes in F, the answer in R -/
structure CE (w0 : World) (B F R base : Nat) (s : St) (g c h d : Nat) (x k a b : Int) (w : World) : Prop where
  cell : Blk w B (cv s g c h d) 76
  how : Blk w F (fv x k a b) 40
  ans : ∃ cs : Array Value, cs.size = 10 ∧ Blk w R cs 76
  rd : RAt w s g c h d
  low : Below w0.heap.size w0 w
  top : base ≤ w.heap.size
theorem CE.call {w0 w w' : World} {B F R base : Nat} {s : St} {g c h d : Nat} {x k a b : Int} (h0 : CE w0 B F R base s g c h d x k a b w) (hw : WfSt s) (hb : Below w.heap.size w w') : CE w0 B F R base s g c h d x k a b w' := by
  obtain ⟨h1, h2, ⟨cs, h3, h4⟩, h5, h6, h7⟩ := h0
  exact ⟨h1.after hb, h2.after hb, ⟨cs, h3, h4.after hb⟩, h5.after hw hb, h6.trans (hb.mono h6.size), Nat.le_trans h7 hb.size⟩
theorem CE.put {w0 w : World} {B F R base : Nat} {s : St} {g c h d : Nat} {x k a b : Int} (h0 : CE w0 B F R base s g c h d x k a b w) (cs : Array Value) (hs : cs.size = 10) (hB : B ≠ R) (hF : F ≠ R) (hg : g ≠ R) (hh : h ≠ R) (hl : w0.heap.size ≤ R) : CE w0 B F R base s g c h d x k a b (w.setRow R cs) := by
  obtain ⟨h1, h2, ⟨cs0, h3, h4⟩, h5, h6, h7⟩ := h0
  exact ⟨h1.put_other (by omega) _, h2.put_other (by omega) _, ⟨cs, hs, h4.put cs⟩, h5.keep (setRow_heap_ne _ _ _ _ (by omega)) (setRow_heap_ne _ _ _ _ (by omega)), below_put hl _ h6, by rw [size_setRow]; exact h7⟩
theorem RAt.same {w : World} {s t : St} {g c h d : Nat} (hr : RAt w s g c h d) (hp : t.ps = s.ps) (hh : t.hs = s.hs) : RAt w t g c h d := by
  obtain ⟨h1, h2⟩ := hr
  exact ⟨by rw [hp]; exact h1, by rw [hh]; exact h2⟩
theorem endSt_ps (s : St) (k : Int) : (endSt s k).ps = s.ps ∧ (endSt s k).hs = s.hs := by
  unfold endSt
  split
  · exact ⟨rfl, rfl⟩
  · split <;> exact ⟨rfl, rfl⟩
end Go.Proofs.YtlijndkpgmbapaaGreatDoor

/- The reference of layer 8, walked: Program. -/
namespace Go.Proofs.YtlijndkpgmbapaaGreatDoor
set_option maxRecDepth 100000
open Go.RowKit

theorem blk_mid (w : World) (A B : Obj) (cs : Array Value) (t : TypeId) : Blk (((w.alloc A).alloc (.cells cs t)).alloc B) (w.heap.size + 1) cs t := by
  have h := (Blk.new (w.alloc A) cs t).alloc B
  rwa [World.size_alloc] at h
theorem below_3 (w : World) (A B C : Obj) : Below w.heap.size w (((w.alloc A).alloc B).alloc C) := (((Below.refl w.heap.size w).alloc (Nat.le_refl _) _).alloc (by simp) _).alloc (by simp; omega) _
structure SpPR (B : Nat) (s2 s3 : St) (ec : Int) (j : Nat) (a : Act) (w : World) : Prop where
  c8 : j = 8 → SlotC 53 s2 (B + 3) a w
  c10 : j = 10 → SlotP 55 s3 ec (B + 3) a w
  c11 : j = 11 → SlotC 56 s3 (B + 3) a w
  c13 : j = 13 → GoodC (B + 2) s3 (B + 3) w
def fPR (j : Nat) : List Tmp := if j = 8 then [53] else if j = 10 then [55] else if j = 11 then [56] else []
theorem SpPR.ext {B : Nat} {s2 s3 : St} {ec : Int} (h2 : WfSt s2) (h3 : WfSt s3) : ∀ (j : Nat) (a a' : Act) (w w' : World), SpPR B s2 s3 ec j a w → (∀ x ∈ fPR j, a'.tmps.getD x undef = a.tmps.getD x undef) → TG (B + 2) s3 (B + 3) w w' → SpPR B s2 s3 ec j a' w' := by
  rintro j a a' w w' ⟨f1, f2, f3, f4⟩ hx hT
  exact ⟨fun h => (f1 h).ext h2 (by omega) (hx 53 (by subst h; simp [fPR])) hT, fun h => (f2 h).ext h3 (by omega) (hx 55 (by subst h; simp [fPR])) hT, fun h => (f3 h).ext h3 (by omega) (hx 56 (by subst h; simp [fPR])) hT, fun h => hT.2 (f4 h)⟩

/-- the frame while the region PR runs -/
def BasePR (B : Nat) (line : Int) (p : ByteArray) (a : Act) : Prop := ∃ u : Nat → Value, a = ⟨#[u 0, .int .i64 line, .string p, u 3, .pointer (some ⟨B, 0, none⟩), u 5, u 6, .pointer (some ⟨B + 1, 0, none⟩), .pointer (some ⟨B + 2, 0, none⟩), u 9, u 10, u 11, u 12, u 13, u 14, u 15, u 16, u 17, u 18, u 19, u 20, u 21, u 22, u 23, u 24, u 25, u 26, u 27, u 28, u 29, u 30, u 31, u 32, u 33, u 34, u 35, u 36, u 37, u 38, u 39, u 40, u 41, u 42, u 43, u 44, u 45, u 46, u 47, u 48, u 49, u 50, u 51, u 52, u 53, u 54, u 55, u 56, u 57], []⟩
theorem BasePR.of {B : Nat} {line : Int} {p : ByteArray} (arr : Array Value) (h : arr = #[arr.getD 0 undef, .int .i64 line, .string p, arr.getD 3 undef, .pointer (some ⟨B, 0, none⟩), arr.getD 5 undef, arr.getD 6 undef, .pointer (some ⟨B + 1, 0, none⟩), .pointer (some ⟨B + 2, 0, none⟩), arr.getD 9 undef, arr.getD 10 undef, arr.getD 11 undef, arr.getD 12 undef, arr.getD 13 undef, arr.getD 14 undef, arr.getD 15 undef, arr.getD 16 undef, arr.getD 17 undef, arr.getD 18 undef, arr.getD 19 undef, arr.getD 20 undef, arr.getD 21 undef, arr.getD 22 undef, arr.getD 23 undef, arr.getD 24 undef, arr.getD 25 undef, arr.getD 26 undef, arr.getD 27 undef, arr.getD 28 undef, arr.getD 29 undef, arr.getD 30 undef, arr.getD 31 undef, arr.getD 32 undef, arr.getD 33 undef, arr.getD 34 undef, arr.getD 35 undef, arr.getD 36 undef, arr.getD 37 undef, arr.getD 38 undef, arr.getD 39 undef, arr.getD 40 undef, arr.getD 41 undef, arr.getD 42 undef, arr.getD 43 undef, arr.getD 44 undef, arr.getD 45 undef, arr.getD 46 undef, arr.getD 47 undef, arr.getD 48 undef, arr.getD 49 undef, arr.getD 50 undef, arr.getD 51 undef, arr.getD 52 undef, arr.getD 53 undef, arr.getD 54 undef, arr.getD 55 undef, arr.getD 56 undef, arr.getD 57 undef]) : BasePR B line p ⟨arr, []⟩ := ⟨fun i => arr.getD i undef, by rw [← h]⟩
theorem BasePR.put45 {B : Nat} {line : Int} {p : ByteArray} (a : Act) (v : Value) (h : BasePR B line p a) : BasePR B line p (a.put (some 45) v) := by
  obtain ⟨u, rfl⟩ := h
  exact ⟨fun i => if i = 45 then v else u i, by kernel_rfl⟩
theorem BasePR.put46 {B : Nat} {line : Int} {p : ByteArray} (a : Act) (v : Value) (h : BasePR B line p a) : BasePR B line p (a.put (some 46) v) := by
  obtain ⟨u, rfl⟩ := h
  exact ⟨fun i => if i = 46 then v else u i, by kernel_rfl⟩
theorem BasePR.put47 {B : Nat} {line : Int} {p : ByteArray} (a : Act) (v : Value) (h : BasePR B line p a) : BasePR B line p (a.put (some 47) v) := by
  obtain ⟨u, rfl⟩ := h
  exact ⟨fun i => if i = 47 then v else u i, by kernel_rfl⟩
theorem BasePR.put48 {B : Nat} {line : Int} {p : ByteArray} (a : Act) (v : Value) (h : BasePR B line p a) : BasePR B line p (a.put (some 48) v) := by
  obtain ⟨u, rfl⟩ := h
  exact ⟨fun i => if i = 48 then v else u i, by kernel_rfl⟩
theorem BasePR.put49 {B : Nat} {line : Int} {p : ByteArray} (a : Act) (v : Value) (h : BasePR B line p a) : BasePR B line p (a.put (some 49) v) := by
  obtain ⟨u, rfl⟩ := h
  exact ⟨fun i => if i = 49 then v else u i, by kernel_rfl⟩
theorem BasePR.put50 {B : Nat} {line : Int} {p : ByteArray} (a : Act) (v : Value) (h : BasePR B line p a) : BasePR B line p (a.put (some 50) v) := by
  obtain ⟨u, rfl⟩ := h
  exact ⟨fun i => if i = 50 then v else u i, by kernel_rfl⟩
theorem BasePR.put9 {B : Nat} {line : Int} {p : ByteArray} (a : Act) (v : Value) (h : BasePR B line p a) : BasePR B line p (a.put (some 9) v) := by
  obtain ⟨u, rfl⟩ := h
  exact ⟨fun i => if i = 9 then v else u i, by kernel_rfl⟩

theorem pr_no {s : St} {line : Int} {p : ByteArray} {k a b : Int} (h : ¬ ProgOk s line p) : progSt s line p k a b = s ∧ progC s line p k = 80 := by
  unfold progSt progC
  rw [if_neg h, if_neg h]
  exact ⟨rfl, rfl⟩
theorem pr_yes {s : St} {line : Int} {p : ByteArray} {k a b : Int} (h : ProgOk s line p) : progSt s line p k a b = endSt (putSt (stepSt s 1) (3 * line.toNat) (pageT p k a b) (hurtsB k)) k ∧ progC s line p k = endC k := by
  unfold progSt progC
  rw [if_pos h, if_pos h]
  exact ⟨rfl, rfl⟩

end Go.Proofs.YtlijndkpgmbapaaGreatDoor

/- The reference of layer 8, walked: Program, whole. -/
namespace Go.Proofs.YtlijndkpgmbapaaGreatDoor
set_option maxRecDepth 100000
open Go.RowKit

end Go.Proofs.YtlijndkpgmbapaaGreatDoor

/- The reference of layer 8, walked: at, Read. -/
namespace Go.Proofs.YtlijndkpgmbapaaGreatDoor
set_option maxRecDepth 100000
open Go.RowKit

end Go.Proofs.YtlijndkpgmbapaaGreatDoor

/- The reference of layer 8, walked: Read. -/
namespace Go.Proofs.YtlijndkpgmbapaaGreatDoor
set_option maxRecDepth 100000
open Go.RowKit

def ReadP (s : St) (line part : Int) (w : World) (e : Ending) (w' : World) : Prop := e = .returned (.tuple #[.string (readT s line part), .int .i64 (readC s line part)]) ∧ Below w.heap.size w w'
theorem read_no {s : St} {line part : Int} (h : ¬ ReadOk s line part) : readT s line part = ByteArray.empty ∧ readC s line part = 80 := by
  unfold readT readC
  rw [if_neg h, if_neg h]
  exact ⟨rfl, rfl⟩
theorem read_yes {s : St} {i q : Nat} (h : ReadOk s i q) : readT s i q = atT s (3 * i + q) ∧ readC s i q = 0 := by
  unfold readT readC
  rw [if_pos h, if_pos h]
  simp
end Go.Proofs.YtlijndkpgmbapaaGreatDoor
