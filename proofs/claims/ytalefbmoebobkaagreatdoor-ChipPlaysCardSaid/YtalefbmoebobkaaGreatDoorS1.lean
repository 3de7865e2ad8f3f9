/- Texts of one claim, merged: Kit, Bs, CrcM, CrcR1, CrcR2, CrcR3, BitsM, Ref1, Ref1T, HamM, HamT, Ref1P, TagM, Ref1Z, FrM, OrM, CeM, FrR1, FrR2, Blk, OrR1, OrR2, OrR3, OrR4, Inv, Inv2, Reg, CeR1, CeR2, CeR3, CeR4. -/
import Derived.Test.YtalefbmoebobkaaGreatDoorRows
import Derived.WalkKit
import Derived.ProofKit
import Derived.OpenShut
import Derived.Outline
import Derived.Lib.Hide
import Derived.WalkLawsBesides
import Derived.WalkSpells
import Derived.Handy
import Derived.Laws.BytesArg
import Derived.Laws.AppendOwn
import Derived.Lib.ConvBytes
import Derived.Deep.OwnRows
import Derived.RowKit
import Derived.Laws.Bits64b
import Derived.Laws.BitsLemmas
import Derived.Deep.WholeRow
import Derived.Deep.QuietTactic
import Derived.BigQuiet
import Derived.Orders
import Derived.Lib.OwnKind
import Derived.Lib.SmallJoins
/- Small lemmas of no one stage: what a call returns, slices of bytes that the call owns, turned into a text. -/
namespace Go.Proofs.YtalefbmoebobkaaGreatDoor
set_option maxRecDepth 100000
open Go.RowKit
theorem fr_put (d : Nat) {L : (Nat → Value) → Array Value} {D : List Deferred} (hL : ∀ v u, (L u).setIfInBounds d v = L (fun i => if i = d then v else u i)) (a : Act) (v : Value) (h : ∃ u, a = ⟨L u, D⟩) : ∃ u, a.put (some d) v = ⟨L u, D⟩ := by
 obtain ⟨u, rfl⟩ := h
 exact ⟨_, congrArg (fun t => (⟨t, D⟩ : Act)) (hL v u)⟩
theorem fr_of {L : (Nat → Value) → Array Value} {D : List Deferred} (arr : Array Value) (h : arr = L (fun i => arr.getD i undef)) : ∃ u, (⟨arr, D⟩ : Act) = ⟨L u, D⟩ := ⟨_, congrArg (fun t => (⟨t, D⟩ : Act)) h⟩
theorem ret_int {k : IntKind} {a b : Int} (h : a = b) : Ending.returned (.int k a) = .returned (.int k b) := by rw [h]
theorem ret_bool {a b : Bool} (h : a = b) : Ending.returned (.bool a) = .returned (.bool b) := by rw [h]
theorem ret_str {a b : ByteArray} {x : Value} (h : a = b) : Ending.returned (.tuple #[.string a, x]) = .returned (.tuple #[.string b, x]) := by rw [h]
theorem strOfNums_eq (xs : List Int) (l : List UInt8) (h : xs.map (fun n => UInt8.ofNat n.toNat) = l) : strOfNums xs = ⟨l.toArray⟩ := by unfold strOfNums; rw [h]
theorem cell_lt {w : World} {a : Addr} {v : Value} (h : w.cell? a = some v) : a.block < w.heap.size := by
 rcases Nat.lt_or_ge a.block w.heap.size with h2 | h2
 ·exact h2
 ·simp [World.cell?, Array.getElem?_eq_none h2] at h
theorem conv_owned {P : Program} {w : World} {src e dst : TypeId} (hs : P.underlying src = some (.slice e)) (he : P.underlying e = some (.int .u8)) (hd : P.underlying dst = some .string)
  {base : Nat} {v : Value} {n : Nat} {ns : List Int} (h : w.ownsRow base e 1 v n (ns.map (Value.int .u8))) :
  Sem.run P (convert src dst v) w = .ok (.string (strOfNums ns)) w := by
 obtain ⟨hl, h⟩ := h
 rcases h with ⟨rfl, rfl⟩ | ⟨g, cap, cur, rfl, _, hg, hc, _, hz, ht⟩
 ·have hn : ns = [] := by simpa using hl
  subst hn
  rw [run_convert_bytes_nil w src e hs he 0 0 dst hd]; rfl
 ·have hln : ns.length = n := by simpa using hl
  refine run_convert_bytes_arg w src e hs he g 0 n cap ns hln ?_ dst hd
  intro i hi
  rw [Nat.zero_add]
  have h1 : cur.toList[i]? = some (.int .u8 (ns.getD i 0)) := by
   have h2 : (cur.toList.take (n * 1))[i]? = cur.toList[i]? := List.getElem?_take_of_lt (by omega)
   rw [← h2, ht]
   have h3 : i < ns.length := by omega
   simp [List.getD, h3]
  simpa [World.cell?, hg] using h1
def BytesAt (w : World) (b : Nat) (ns : List Int) : Prop := ∀ i, i < ns.length → w.cell? ⟨b, i, none⟩ = some (.int .u8 (ns.getD i 0))
theorem BytesAt.drew {w : World} {b : Nat} {ns : List Int} (h : BytesAt w b ns) : BytesAt w.drew b ns := h
theorem BytesAt.set {w : World} {b : Nat} {ns : List Int} (h : BytesAt w b ns) (i : Nat) (x : Int) : BytesAt (w.setCell ⟨b, i, none⟩ (.int .u8 x)) b (ns.set i x) := by
 intro k hk
 have hk' : k < ns.length := by simpa using hk
 by_cases e : k = i
 ·subst e
  rw [World.cell?_setCell_same w _ _ (h k hk')]
  simp [List.getD, hk']
 ·have hne : (⟨b, i, none⟩ : Addr) ≠ ⟨b, k, none⟩ := fun h2 => e (congrArg Addr.off h2).symm
  rw [World.cell?_setCell_other w _ _ _ hne, h k hk']
  simp [List.getD, Ne.symm e]
theorem BytesAt.conv {P : Program} {w : World} {src e dst : TypeId} (hs : P.underlying src = some (.slice e)) (he : P.underlying e = some (.int .u8)) (hd : P.underlying dst = some .string)
  {b : Nat} {ns : List Int} (h : BytesAt w b ns) (n cap : Nat) (hn : ns.length = n) : Sem.run P (convert src dst (.slice (some ⟨b, 0, none⟩) n cap)) w = .ok (.string (strOfNums ns)) w := by
 refine run_convert_bytes_arg w src e hs he b 0 n cap ns hn ?_ dst hd
 intro i hi
 rw [Nat.zero_add]
 exact h i (by omega)
def nums (s : ByteArray) : List Int := s.data.toList.map fun b => (b.toNat : Int)
theorem nums_length (s : ByteArray) : (nums s).length = s.size := by simp [nums]
theorem nums_get (s : ByteArray) (i : Nat) (hi : i < s.size) : (nums s).getD i 0 = (s[i].toNat : Int) := by
 simp [nums, List.getD, hi]
 rfl
theorem bytes_of {P : Program} {src dst e : TypeId} {u : TypeDesc} (hs : P.underlying src = some u) (hd : P.underlying dst = some (.slice e)) (he : P.underlying e = some (.int .u8)) (s : ByteArray) (w : World) : ∃ (cap : Nat) (W1 : World),
  Sem.run P (convert src dst (.string s)) w = .ok (.slice (some ⟨w.heap.size, 0, none⟩) s.size cap) W1 ∧ Below w.heap.size w W1 ∧
  BytesAt W1 w.heap.size (nums s) ∧ (∀ i, i < s.size → W1.frozen? ⟨w.heap.size, i, none⟩ = false) ∧ w.heap.size < W1.heap.size := by
 refine ⟨_, _, Lib.run_convert_string_bytes (P := P) w src dst e s hs hd he, ⟨rfl, rfl, rfl, by rw [Lib.bytesWorld_size]; omega, fun k hk => Lib.bytesWorld_at_old _ _ _ _ hk⟩, ?_, ?_, by rw [Lib.bytesWorld_size]; omega⟩
 ·intro i hi
  rw [nums_length] at hi
  rw [Lib.bytesWorld_cell _ _ _ _ hi, nums_get _ _ hi]
  simp [List.getD, hi]; rfl
 ·intro i hi
  have hz : s.size ≤ (Lib.bytesCells w e s).size := by
   unfold Lib.bytesCells; rw [Array.size_append, Array.size_map]; exact Nat.le_add_right _ _
  simp [World.frozen?, Lib.bytesWorld_at_new]
  omega
/- What several layers share: a text's bytes, a row that the call owns and grew, the byte type's entry. -/
def bs (s : ByteArray) : List UInt8 := s.data.toList
theorem bs_length (s : ByteArray) : (bs s).length = s.size := by simp [bs]
theorem own_below {wr w1 : World} {B n : Nat} {v : Value} {xs : List Value} {E : TypeId} {o : Obj} (hown : wr.ownsRow B E 1 v n xs) (hB : B ≤ wr.heap.size) (hgrow : (wr.alloc o).grownBy w1 v.ownBlock) : Below B wr w1 := by
 refine Below.grown (row := v.ownBlock) ((Below.refl _ _).alloc hB _) hgrow (by simp; omega) ?_
 intro g hg
 exact hown.2.elim (fun h => by rw [h.1] at hg; simp [Value.ownBlock] at hg) (fun ⟨g', _, _, h, hge, _⟩ => by rw [h] at hg; simp [Value.ownBlock] at hg; omega)
theorem Tryz.infoU8 : (Tryz.prog.info? 5).map (fun i => (i.zero, i.size, i.bytes)) = some (some (.int .u8 0), 1, 1) := by kernel_rfl
end Go.Proofs.YtalefbmoebobkaaGreatDoor
/- Plain arithmetic for layer 2: a text as one great number, a step of the division, and what is left of it. No Go in sight. -/
namespace Go.Proofs.YtalefbmoebobkaaGreatDoor
set_option maxRecDepth 100000
def polyN : Nat := 3988292384
theorem polyN_lt : polyN < 2 ^ 32 := by decide
def s0 (x : Nat) : Nat := x / 2 ^^^ (if x % 2 = 1 then polyN else 0)
def sN : Nat → Nat → Nat
 | 0, x => x
 | n + 1, x => sN n (s0 x)
theorem sN_add (m : Nat) : ∀ n x, sN (n + m) x = sN m (sN n x) := by
 intro n
 induction n with
 | zero => intro x; rw [Nat.zero_add]; rfl
 | succ n ih => intro x; rw [show n + 1 + m = (n + m) + 1 by omega]; exact ih (s0 x)
theorem xor_half (a b : Nat) : (a ^^^ b) / 2 = a / 2 ^^^ b / 2 := by
 apply Nat.eq_of_testBit_eq; intro i
 rw [Nat.testBit_xor, Nat.testBit_div_two, Nat.testBit_div_two, Nat.testBit_div_two, Nat.testBit_xor]
theorem xor_odd (a b : Nat) : (a ^^^ b) % 2 = (a % 2 + b % 2) % 2 := by
 have h := Nat.testBit_xor a b 0
 simp only [Nat.testBit_zero] at h
 have h1 : a % 2 = 0 ∨ a % 2 = 1 := by omega
 have h2 : b % 2 = 0 ∨ b % 2 = 1 := by omega
 have h3 : (a ^^^ b) % 2 = 0 ∨ (a ^^^ b) % 2 = 1 := by omega
 rcases h1 with h1 | h1 <;> rcases h2 with h2 | h2 <;> rcases h3 with h3 | h3 <;> simp [h1, h2, h3] at h ⊢
theorem s0_xor (a b : Nat) : s0 (a ^^^ b) = s0 a ^^^ s0 b := by
 unfold s0
 rw [xor_half, xor_odd]
 have h1 : a % 2 = 0 ∨ a % 2 = 1 := by omega
 have h2 : b % 2 = 0 ∨ b % 2 = 1 := by omega
 rcases h1 with h1 | h1 <;> rcases h2 with h2 | h2
 ·simp [h1, h2]
 ·simp [h1, h2, Nat.xor_assoc]
 ·simp [h1, h2]
  rw [Nat.xor_assoc, Nat.xor_assoc, Nat.xor_comm (b / 2)]
 ·simp [h1, h2]
  rw [Nat.xor_assoc, Nat.xor_comm polyN, Nat.xor_assoc, Nat.xor_self, Nat.xor_zero]
theorem sN_xor (n : Nat) : ∀ a b, sN n (a ^^^ b) = sN n a ^^^ sN n b := by
 induction n with
 | zero => intro a b; rfl
 | succ n ih => intro a b; show sN n (s0 (a ^^^ b)) = sN n (s0 a) ^^^ sN n (s0 b); rw [s0_xor, ih]
theorem s0_two (x : Nat) : s0 (2 * x) = x := by
 unfold s0
 rw [show 2 * x % 2 = 0 by omega, show 2 * x / 2 = x by omega]; simp
theorem sN_shift (n : Nat) : ∀ x, sN n (2 ^ n * x) = x := by
 induction n with
 | zero => intro x; simp [sN]
 | succ n ih => intro x; show sN n (s0 (2 ^ (n + 1) * x)) = x; rw [Nat.pow_succ, Nat.mul_comm (2 ^ n) 2, Nat.mul_assoc, s0_two, ih]
theorem s0_lt (x : Nat) (h : x < 2 ^ 32) : s0 x < 2 ^ 32 := by
 unfold s0
 refine Nat.xor_lt_two_pow (by omega) ?_
 split
 ·exact polyN_lt
 ·decide
theorem sN_lt (n : Nat) : ∀ x, x < 2 ^ 32 → sN n x < 2 ^ 32 := by
 induction n with
 | zero => intro x h; exact h
 | succ n ih => intro x h; exact ih _ (s0_lt x h)
def numN : List UInt8 → Nat
 | [] => 0
 | b :: l => b.toNat + 256 * numN l
theorem numN_lt : ∀ l : List UInt8, numN l < 2 ^ (8 * l.length)
 | [] => by simp [numN]
 | b :: l => by
  have h := numN_lt l
  have hb : b.toNat < 256 := b.toNat_lt
  rw [List.length_cons, show 8 * (l.length + 1) = 8 + 8 * l.length by omega, Nat.pow_add, show 2 ^ 8 = 256 from rfl]
  simp only [numN]; omega
theorem add_xor (a b n : Nat) (h : a < 2 ^ n) : a + 2 ^ n * b = a ^^^ 2 ^ n * b := by
 have h1 := Nat.shiftLeft_add_eq_or_of_lt h b
 rw [Nat.shiftLeft_eq, Nat.mul_comm] at h1
 rw [Nat.add_comm, h1]
 apply Nat.eq_of_testBit_eq; intro i
 rw [Nat.testBit_or, Nat.testBit_xor]
 by_cases hi : i < n
 ·have h2 : (2 ^ n * b).testBit i = false := by rw [Nat.testBit_two_pow_mul]; simp; omega
  rw [h2]; simp
 ·have h2 : a.testBit i = false := Nat.testBit_lt_two_pow (Nat.lt_of_lt_of_le h (Nat.pow_le_pow_right (by decide) (by omega)))
  rw [h2]; simp
theorem numN_append : ∀ a b : List UInt8, numN (a ++ b) = numN a + 2 ^ (8 * a.length) * numN b
 | [], b => by simp [numN]
 | c :: a, b => by
  have h := numN_append a b
  rw [List.length_cons, show 8 * (a.length + 1) = 8 + 8 * a.length by omega, Nat.pow_add, show 2 ^ 8 = 256 from rfl, Nat.mul_assoc]
  simp only [List.cons_append, numN, h]; omega
def more (st : Nat) (l : List UInt8) : Nat := sN (8 * l.length) (st ^^^ numN l)
theorem more_lt (st : Nat) (l : List UInt8) (h : st < 2 ^ 32) : more st l < 2 ^ 32 := by
 induction l generalizing st with
 | nil => simpa [more, sN, numN] using h
 | cons b l ih =>
  have hb : b.toNat < 256 := b.toNat_lt
  have e : more st (b :: l) = more (sN 8 (st ^^^ b.toNat)) l := by
   unfold more
   rw [List.length_cons, show 8 * (l.length + 1) = 8 + 8 * l.length by omega, sN_add]
   congr 1
   simp only [numN]
   rw [show b.toNat + 256 * numN l = b.toNat ^^^ 2 ^ 8 * numN l from add_xor b.toNat (numN l) 8 hb, ← Nat.xor_assoc, sN_xor, sN_shift]
  rw [e]
  exact ih _ (sN_lt _ _ (Nat.xor_lt_two_pow h (by omega)))
theorem more_cons (st : Nat) (b : UInt8) (l : List UInt8) : more st (b :: l) = more (sN 8 (st ^^^ b.toNat)) l := by
 have hb : b.toNat < 256 := b.toNat_lt
 unfold more
 rw [List.length_cons, show 8 * (l.length + 1) = 8 + 8 * l.length by omega, sN_add]
 congr 1
 simp only [numN]
 rw [show b.toNat + 256 * numN l = b.toNat ^^^ 2 ^ 8 * numN l from add_xor b.toNat (numN l) 8 hb, ← Nat.xor_assoc, sN_xor, sN_shift]
theorem more_nil (st : Nat) : more st [] = st := by simp [more, sN, numN]
theorem more_append (st : Nat) (a b : List UInt8) : more st (a ++ b) = more (more st a) b := by
 unfold more
 rw [List.length_append, show 8 * (a.length + b.length) = 8 * a.length + 8 * b.length by omega, sN_add, numN_append, add_xor _ _ _ (numN_lt a), ← Nat.xor_assoc, sN_xor, sN_shift]
theorem more_snoc (st : Nat) (a : List UInt8) (b : UInt8) : more st (a ++ [b]) = sN 8 (more st a ^^^ b.toNat) := by
 rw [more_append, more_cons, more_nil]
def ones32 : Nat := 4294967295
def sumN (l : List UInt8) : Nat := more ones32 l ^^^ ones32
def tail4 (n : Nat) : List UInt8 := [UInt8.ofNat (n % 256), UInt8.ofNat (n / 256 % 256), UInt8.ofNat (n / 65536 % 256), UInt8.ofNat (n / 16777216 % 256)]
def sealN (l : List UInt8) : List UInt8 := l ++ tail4 (sumN l)
theorem sumN_lt (l : List UInt8) : sumN l < 2 ^ 32 := Nat.xor_lt_two_pow (more_lt _ _ (by decide)) (by decide)
def good : Nat := sN 32 ones32
/-! three texts put together -/
/-! bits that lie next to one another -/
/-! half a byte at a time -/
def half (i : Nat) : Nat := sN 4 i
theorem sN_half (x : Nat) : sN 4 x = x / 16 ^^^ half (x % 16) := by
 have e : x = x % 16 ^^^ 2 ^ 4 * (x / 16) := by
  rw [← add_xor _ _ _ (by omega : x % 16 < 2 ^ 4)]; omega
 conv => lhs; rw [e]
 rw [sN_xor, sN_shift, Nat.xor_comm]; rfl
end Go.Proofs.YtalefbmoebobkaaGreatDoor
/- The reference of layer 2, walked: its lists of bits as the bits of one number. -/
namespace Go.Proofs.YtalefbmoebobkaaGreatDoor
set_option maxRecDepth 100000
open Go.RowKit
def BitsAt (w : World) (g off N M : Nat) : Prop := ∀ i, i < N → w.cell? ⟨g, off + i, none⟩ = some (.bool (M.testBit i))
theorem BitsAt.drew {w : World} {g off N M : Nat} (h : BitsAt w g off N M) : BitsAt w.drew g off N M := h
theorem BitsAt.below {w w' : World} {B g off N M : Nat} (h : BitsAt w g off N M) (hb : Below B w w') (hg : g < B) : BitsAt w' g off N M := by
 intro i hi
 rw [hb.cell (p := ⟨g, off + i, none⟩) hg]; exact h i hi
theorem BitsAt.set {w : World} {g N M M' : Nat} (h : BitsAt w g 0 N M) (j : Nat) (b : Bool) (hj : M'.testBit j = b) (ho : ∀ i, i ≠ j → M'.testBit i = M.testBit i) :
  BitsAt (w.setCell ⟨g, j, none⟩ (.bool b)) g 0 N M' := by
 intro i hi
 have h1 := h i hi
 rw [Nat.zero_add] at *
 by_cases e : i = j
 ·subst e
  rw [World.cell?_setCell_same w _ _ h1, hj]
 ·have hne : (⟨g, j, none⟩ : Addr) ≠ ⟨g, i, none⟩ := fun h2 => e (congrArg Addr.off h2).symm
  rw [World.cell?_setCell_other w _ _ _ hne, h1, ho i e]
def bl (M : Nat) : Nat → List Value
 | 0 => []
 | k + 1 => bl M k ++ [.bool (M.testBit k)]
theorem Tryz.infoBool : (Tryz.prog.info? 4).map (fun i => (i.zero, i.size, i.bytes)) = some (some (.bool false), 1, 1) := by kernel_rfl
/-! Poly: all numbers known -/
/-! Of: the bits of a number -/
/-! Bits: the bits of a text -/
/- The reference's Number and Left: a list of bits as a number; what is left of a polynomial. -/
/-! Left -/
def OwnM (w wr : World) (G N M : Nat) : Prop := BitsAt wr G 0 N M ∧ Below G w wr ∧ (∀ i, wr.frozen? ⟨G, i, none⟩ = false) ∧ G < wr.heap.size
theorem OwnM.drew {w wr : World} {G N M : Nat} (h : OwnM w wr G N M) : OwnM w wr.drew G N M := ⟨h.1, h.2.1.drew, h.2.2.1, h.2.2.2⟩
theorem OwnM.set {w wr : World} {G N M M' : Nat} (h : OwnM w wr G N M) (j : Nat) (b : Bool) (hj : M'.testBit j = b) (ho : ∀ i, i ≠ j → M'.testBit i = M.testBit i) :
  OwnM w (wr.setCell ⟨G, j, none⟩ (.bool b)) G N M' := by
 refine ⟨h.1.set j b hj ho, h.2.1.setCell (Nat.le_refl _) _, fun i => ?_, by simpa [World.setCell] using h.2.2.2⟩
 rw [World.frozen?_setCell]; exact h.2.2.1 i
theorem OwnM.cell {w wr : World} {G N M : Nat} (h : OwnM w wr G N M) (i : Nat) (hi : i < N) : wr.cell? ⟨G, i, none⟩ = some (.bool (M.testBit i)) := by
 have := h.1 i hi; rwa [Nat.zero_add] at this
theorem OwnM.made (w : World) (N : Nat) (E : TypeId) : OwnM w (w.alloc (.cells (madeCells #[.bool false] N) E)) w.heap.size N 0 := by
 refine ⟨?_, (Below.refl _ _).alloc (Nat.le_refl _) _, fun i => World.frozen?_alloc_new _ _ _ _, by simp⟩
 intro i hi
 rw [Nat.zero_add, World.cell?_alloc_new, Nat.zero_testBit]
 simp [madeCells, hi, Nat.mod_one]
theorem OwnM.later {w wp w1 : World} {G N M : Nat} (h : OwnM w wp G N M) (hb : Below wp.heap.size wp w1) : OwnM w w1 G N M :=
 ⟨h.1.below hb h.2.2.2, h.2.1.trans (hb.mono (Nat.le_of_lt h.2.2.2)), fun i => by rw [hb.frozen (p := ⟨G, i, none⟩) h.2.2.2]; exact h.2.2.1 i, Nat.lt_of_lt_of_le h.2.2.2 hb.size⟩
theorem BitsAt.other {w : World} {g off N M : Nat} (h : BitsAt w g off N M) {G : Nat} (hg : G ≠ g) (j : Nat) (v : Value) : BitsAt (w.setCell ⟨G, j, none⟩ v) g off N M := by
 intro i hi
 have hne : (⟨G, j, none⟩ : Addr) ≠ ⟨g, off + i, none⟩ := fun h2 => hg (congrArg Addr.block h2)
 rw [World.cell?_setCell_other w _ _ _ hne]; exact h i hi
/- The reference's More, Sum, Tail, Seal and Whole. -/
def sealS (s : ByteArray) : ByteArray := ⟨(sealN (bs s)).toArray⟩
theorem bs_sealS (s : ByteArray) : bs (sealS s) = sealN (bs s) := rfl
theorem seal_cat (s : ByteArray) : s ++ (⟨(tail4 (sumN (bs s))).toArray⟩ : ByteArray) = sealS s := by
 cases s with
 | mk d =>
  rw [ByteArray.mk_append_mk]
  unfold sealS sealN bs
  congr 1
theorem tail_str (N : Nat) : ∃ t : ByteArray, (⟨(tail4 N).toArray⟩ : ByteArray) = t ∧ t.size ≤ 4 := ⟨_, rfl, by show (tail4 N).toArray.size ≤ 4; simp [tail4]⟩
def wholeB (s : ByteArray) : Bool := decide (4 ≤ s.size) && ((sealS (s.extract 0 (s.size - 4))).toList == s.toList)
/- Plain arithmetic for layer 1: powers of two, single bits, the lowest bits of a number, its sign in so many bits, and bits turned round in 64. No Go in sight. -/
def p2 (k : Nat) : Int := 2 ^ k
theorem p2_succ (k : Nat) : p2 (k + 1) = p2 k * 2 := Int.pow_succ 2 k
theorem p2_add (a b : Nat) : p2 (a + b) = p2 a * p2 b := Int.pow_add 2 a b
theorem p2_pos (k : Nat) : 0 < p2 k := Int.pow_pos (by decide)
theorem p2_63 : p2 63 = 9223372036854775808 := by decide
theorem p2_le {a b : Nat} (h : a ≤ b) : p2 a ≤ p2 b := by
 obtain ⟨c, rfl⟩ := Nat.exists_eq_add_of_le h
 rw [p2_add]
 have h1 := p2_pos a
 have h2 := p2_pos c
 have h3 : p2 a * 1 ≤ p2 a * p2 c := Int.mul_le_mul_of_nonneg_left (by omega) (by omega)
 omega
theorem p2_lt {a : Nat} (h : a < 64) : p2 a < 18446744073709551616 := by
 have h1 : p2 a ≤ p2 63 := p2_le (by omega)
 rw [p2_63] at h1; omega
def bt (v : Int) (k : Nat) : Int := v / p2 k % 2
theorem bt_01 (v : Int) (k : Nat) : bt v k = 0 ∨ bt v k = 1 := by unfold bt; omega
def lo (v : Int) (k : Nat) : Int := v % p2 k
/-! bits turned round in 64 -/
def turned (v : Int) (a m : Nat) : Int := if m ≤ 64 - a then lo v m * p2 a else lo v (64 - a) * p2 a + lo v m / p2 (64 - a)
/- The reference of layer 1, as far as later layers lean on it: Power, Bit, Flip; and a text with a bit turned. -/
theorem power_any (k : Nat) (w : World) (hk : k ≤ 63) :
  Calls Tryz.prog 129 #[.int .i64 k] w fun e w' => e = .returned (.int .u64 (p2 k)) ∧ w = w' := by
 go_enter Tryz.func129, Tryz.ntmps129
 go_wp2
 go_loop [3, 4] (fun t i => ∃ j : Nat, j ≤ k ∧ i = .int .i64 j ∧ t = .int .u64 (p2 j)) (fun _ i => k - (intOf i).toNat)
 case atStart => exact ⟨0, Nat.zero_le _, rfl, rfl⟩
 case round =>
  obtain ⟨j, hj, rfl, rfl⟩ := hrel
  by_cases hlt : j < k
  ·have hp := p2_pos j
   have hp2 : p2 j * 2 < 18446744073709551616 := by
    rw [← p2_succ]; exact p2_lt (by omega)
   go_wp2
   go_round
   case rel => exact ⟨j + 1, by omega, by go_num, by rw [p2_succ]⟩
   case measure => simp [intOf]; omega
  ·obtain rfl : j = k := by omega
   go_wp2
   go_ret
   exact ⟨rfl, rfl⟩
theorem bit_math (v : Int) (k : Nat) (v0 : 0 ≤ v) (v1 : v < 18446744073709551616) : (IntKind.u64.wrap (v.tdiv (p2 k))).tmod 2 = bt v k := by
 have hp := p2_pos k
 have hd : 0 ≤ v / p2 k := Int.ediv_nonneg v0 (by omega)
 have hl : v / p2 k ≤ v := Int.ediv_le_self _ v0
 rw [Int.tdiv_eq_ediv_of_nonneg v0, IntKind.wrap_u64, Int.emod_eq_of_lt hd (by omega), Int.tmod_eq_emod_of_nonneg hd]
 rfl
theorem bit_any (v : Int) (k : Nat) (w : World) (hk : k ≤ 63) (v0 : 0 ≤ v) (v1 : v < 18446744073709551616) :
  Calls Tryz.prog 130 #[.int .u64 v, .int .i64 k] w fun e w' => e = .returned (.int .u64 (bt v k)) ∧ w = w' := by
 have HB := Lib.hid (bit_math v k v0 v1)
 have hp := p2_pos k
 go_enter Tryz.func130, Tryz.ntmps130
 clear v0 v1
 go_wp2_with (go_at_call 129; refine (power_any k _ hk).mono ?_; rintro e w' ⟨rfl, rfl⟩)
 go_ret
 exact ⟨ret_int HB.out, rfl⟩
theorem bit_one (v : Int) (k : Nat) (w : World) (hk : k ≤ 63) (v0 : 0 ≤ v) (v1 : v < 18446744073709551616) (h : bt v k = 1) :
  Calls Tryz.prog 130 #[.int .u64 v, .int .i64 k] w fun e w' => e = .returned (.int .u64 1) ∧ w = w' := by
 have := bit_any v k w hk v0 v1; rwa [h] at this
theorem bit_nil (v : Int) (k : Nat) (w : World) (hk : k ≤ 63) (v0 : 0 ≤ v) (v1 : v < 18446744073709551616) (h : bt v k = 0) :
  Calls Tryz.prog 130 #[.int .u64 v, .int .i64 k] w fun e w' => e = .returned (.int .u64 0) ∧ w = w' := by
 have := bit_any v k w hk v0 v1; rwa [h] at this
def flipS (s : ByteArray) (i j : Nat) : ByteArray := strOfNums ((nums s).set i (bits .xor .u8 ((nums s).getD i 0) (2 ^ j % 256)))
theorem len_set (l : List Int) (i : Nat) (x : Int) (n : Nat) (h : l.length = n) : (l.set i x).length = n := by rw [List.length_set, h]
theorem xor_nil (c j : Nat) (hc : c < 256) (hj : j < 8) (hb : bt c j = 0) : bits .xor .u8 (c : Int) (2 ^ j % 256) = (c + p2 j) % 256 := by
 have h : ∀ c, c < 256 → ∀ j, j < 8 → bt ((c : Nat) : Int) j = 0 → bits .xor .u8 ((c : Nat) : Int) (2 ^ (j : Nat) % 256) = (c + p2 j) % 256 := by decide +kernel
 exact h c hc j hj hb
theorem xor_one (c j : Nat) (hc : c < 256) (hj : j < 8) (hb : bt c j = 1) : bits .xor .u8 (c : Int) (2 ^ j % 256) = (c - p2 j) % 256 := by
 have h : ∀ c, c < 256 → ∀ j, j < 8 → bt ((c : Nat) : Int) j = 1 → bits .xor .u8 ((c : Nat) : Int) (2 ^ (j : Nat) % 256) = (c - p2 j) % 256 := by decide +kernel
 exact h c hc j hj hb
theorem rflip_yes (s : ByteArray) (i j : Nat) (w : World) (hm : s.size ≤ 1000) (hi : i < s.size) (hj : j < 8) :
  Calls Tryz.prog 83 #[.string s, .int .i64 (8 * (i : Int) + j)] w fun e w' => e = .returned (.tuple #[.string (flipS s i j), .int .i64 0]) ∧ Below w.heap.size w w' := by
 have hq : (8 * (i : Int) + j) / 8 = i := by omega
 have hr : (8 * (i : Int) + j) % 8 = j := by omega
 obtain ⟨cap, W1, hcv, hb1, hcs, hfz, _⟩ := bytes_of (P := Tryz.prog) (src := 9) (dst := 112) (e := 5) Tryz.underlying9 Tryz.underlying112 Tryz.underlying5 s w
 obtain ⟨c, hcc⟩ : ∃ c : Nat, s[i].toNat = c := ⟨_, rfl⟩
 have hc256 : c < 256 := by rw [← hcc]; exact s[i].toNat_lt
 have hn := nums_get s i hi
 rw [hcc] at hn
 have hc := hcs i (by rw [nums_length]; exact hi)
 rw [hn] at hc
 have hf := hfz i hi
 have hcb := fun x : Int => (hcs.set i x).conv (P := Tryz.prog) (src := 112) (e := 5) (dst := 9) Tryz.underlying112 Tryz.underlying5 Tryz.underlying9 s.size cap (len_set _ _ _ _ (nums_length s))
 have HB := Lib.hid hb1
 clear hcs hfz hcc hb1
 rcases bt_01 c j with hbb | hbb
 all_goals
  first | have hx := xor_nil c j hc256 hj hbb | have hx := xor_one c j hc256 hj hbb
  have HX : Hid (flipS s i j = strOfNums ((nums s).set i (bits .xor .u8 (c : Int) (2 ^ j % 256)))) := by unfold flipS; rw [hn]; exact rfl
  rw [hx] at HX
  have HBB := Lib.hid hbb
  clear hx hbb hn
  go_enter Tryz.func83, Tryz.ntmps83
  go_wp2_with fail
  try rw [hr]
  refine (power_any j _ (by omega)).mono ?_
  rintro e w' ⟨rfl, rfl⟩
  go_wp2_with fail
  first | refine (bit_nil _ j _ (by omega) (by omega) (by omega) HBB.out).mono ?_ | refine (bit_one _ j _ (by omega) (by omega) (by omega) HBB.out).mono ?_
  rintro e w' ⟨rfl, rfl⟩
  go_wp2
  go_ret2
  exact ⟨ret_str HX.out.symm, HB.out.setCell (Nat.le_refl _) _⟩
/- Texts with a bit turned, and a text as one number: what turning a bit does to it. -/
def fb (c : UInt8) (j : Nat) : UInt8 := UInt8.ofNat (bits .xor .u8 (c.toNat : Int) (2 ^ j % 256)).toNat
def fl (l : List UInt8) (i j : Nat) : List UInt8 := l.set i (fb (l.getD i 0) j)
theorem fl_length (l : List UInt8) (i j : Nat) : (fl l i j).length = l.length := by simp [fl]
theorem flipS_eq (s : ByteArray) (i j : Nat) (hi : i < s.size) : flipS s i j = ⟨(fl s.data.toList i j).toArray⟩ := by
 unfold flipS
 apply strOfNums_eq
 rw [nums_get s i hi, List.map_set]
 have e : (nums s).map (fun n : Int => UInt8.ofNat n.toNat) = s.data.toList := by
  unfold nums
  rw [List.map_map]
  have e : ((fun n : Int => UInt8.ofNat n.toNat) ∘ fun b : UInt8 => (b.toNat : Int)) = id := by funext b; simp
  rw [e, List.map_id]
 rw [e]
 unfold fl fb
 have hg : s.data.toList.getD i 0 = s[i] := by simp [List.getD, hi]; rfl
 rw [hg]
theorem flipS_list (s : ByteArray) (i j : Nat) (hi : i < s.size) : (flipS s i j).data.toList = fl s.data.toList i j := by rw [flipS_eq s i j hi]
theorem flipS_size (s : ByteArray) (i j : Nat) (hi : i < s.size) : (flipS s i j).size = s.size := by
 have h : (flipS s i j).data.toList.length = s.data.toList.length := by rw [flipS_list s i j hi, fl_length]
 simpa using h
theorem numN_bit : ∀ (l : List UInt8) (k j : Nat) (c : UInt8), l[k]? = some c → j < 8 → (numN l).testBit (8 * k + j) = c.toNat.testBit j
 | [], k, j, c, h, _ => by simp at h
 | b :: l, 0, j, c, h, hj => by
  simp at h; subst h
  have hb : b.toNat < 2 ^ 8 := b.toNat_lt
  rw [show numN (b :: l) = 2 ^ 8 * numN l + b.toNat by simp only [numN]; omega, Nat.testBit_two_pow_mul_add _ hb, if_pos (by omega), show 8 * 0 + j = j by omega]
 | b :: l, k + 1, j, c, h, hj => by
  have hb : b.toNat < 2 ^ 8 := b.toNat_lt
  rw [show numN (b :: l) = 2 ^ 8 * numN l + b.toNat by simp only [numN]; omega, Nat.testBit_two_pow_mul_add _ hb, if_neg (by omega), show 8 * (k + 1) + j - 8 = 8 * k + j by omega]
  exact numN_bit l k j c (by simpa using h) hj
end Go.Proofs.YtalefbmoebobkaaGreatDoor
/- Plain arithmetic for layer 3: the places of bits, put together, and how many bits there are. No Go in sight. -/
namespace Go.Proofs.YtalefbmoebobkaaGreatDoor
set_option maxRecDepth 100000
def pl : List Nat := [3, 5, 6, 7, 9, 10, 11, 12, 13, 14, 15, 17, 18, 19, 20, 21, 22, 23, 24, 25, 26, 27, 28, 29, 30, 31, 33, 34, 35, 36, 37, 38, 39, 40, 41, 42, 43, 44, 45, 46, 47, 48, 49, 50, 51, 52, 53, 54, 55, 56, 57, 58, 59, 60, 61, 62, 63, 65, 66, 67, 68, 69, 70, 71, 1, 2, 4, 8, 16, 32, 64, 0]
def place (i : Nat) : Nat := pl.getD i 0
theorem place_le (i : Nat) : place i ≤ 71 := by
 by_cases h : i < 72
 ·have h2 : ∀ i, i < 72 → place i ≤ 71 := by decide +kernel
  exact h2 i h
 ·unfold place
  have h3 : pl[i]? = none := List.getElem?_eq_none (by show pl.length ≤ i; rw [show pl.length = 72 from rfl]; omega)
  rw [List.getD_eq_getElem?_getD, h3]; decide
theorem place_inj {i j : Nat} (hi : i < 72) (hj : j < 72) (h : place i = place j) : i = j := by
 have h2 : ∀ i, i < 72 → ∀ j, j < 72 → place i = place j → i = j := by decide +kernel
 exact h2 i hi j hj h
def idx (p : Nat) : Nat := pl.idxOf p
def left (M : Nat) : Nat → Nat
 | 0 => 0
 | n + 1 => left M n ^^^ (if M.testBit n then place n else 0)
def cnt (M : Nat) : Nat → Nat
 | 0 => 0
 | n + 1 => cnt M n + (if M.testBit n then 1 else 0)
theorem left_lt (M : Nat) : ∀ n, left M n < 128
 | 0 => by show (0 : Nat) < 128; decide
 | n + 1 => by
  have h := left_lt M n
  have h2 := place_le n
  unfold left
  refine Nat.xor_lt_two_pow (n := 7) h ?_
  split <;> omega
theorem cnt_le (M : Nat) : ∀ n, cnt M n ≤ n
 | 0 => Nat.le_refl _
 | n + 1 => by
  have h := cnt_le M n
  unfold cnt; split <;> omega
theorem left_xor (A B : Nat) : ∀ n, left (A ^^^ B) n = left A n ^^^ left B n
 | 0 => by show (0 : Nat) = 0 ^^^ 0; rfl
 | n + 1 => by
  have ih := left_xor A B n
  simp only [left, Nat.testBit_xor, ih]
  cases A.testBit n <;> cases B.testBit n <;> simp
  ·ac_rfl
  ·ac_rfl
  ·rw [show left A n ^^^ place n ^^^ (left B n ^^^ place n) = (left A n ^^^ left B n) ^^^ (place n ^^^ place n) by ac_rfl, Nat.xor_self, Nat.xor_zero]
theorem cnt_xor (A B : Nat) : ∀ n, cnt (A ^^^ B) n % 2 = (cnt A n + cnt B n) % 2
 | 0 => rfl
 | n + 1 => by
  have ih := cnt_xor A B n
  simp only [cnt, Nat.testBit_xor]
  cases A.testBit n <;> cases B.testBit n <;> simp <;> omega
theorem cnt_congr {A B : Nat} : ∀ n, (∀ i, i < n → A.testBit i = B.testBit i) → cnt A n = cnt B n
 | 0, _ => rfl
 | n + 1, h => by
  simp only [cnt]
  rw [cnt_congr n (fun i hi => h i (by omega)), h n (by omega)]
theorem pow_testBit (k i : Nat) : (2 ^ k).testBit i = decide (k = i) := Nat.testBit_two_pow ..
theorem cnt_flip {M k : Nat} (hb : M.testBit k = true) : ∀ n, k < n → cnt M n = cnt (M ^^^ 2 ^ k) n + 1
 | 0, h => by omega
 | n + 1, h => by
  simp only [cnt, Nat.testBit_xor, pow_testBit]
  by_cases e : k = n
  ·subst e
   rw [cnt_congr (A := M ^^^ 2 ^ k) (B := M) k (fun i hi => by rw [Nat.testBit_xor, pow_testBit, decide_eq_false (by omega)]; simp), hb]
   simp
  ·rw [cnt_flip hb n (by omega), decide_eq_false e]
   simp; omega
theorem left_more (M n : Nat) : ∀ d, (∀ i, n ≤ i → i < n + d → M.testBit i = false) → left M (n + d) = left M n
 | 0, _ => rfl
 | d + 1, h => by
  show left M (n + d) ^^^ (if M.testBit (n + d) then place (n + d) else 0) = _
  rw [left_more M n d (fun i h1 h2 => h i h1 (by omega)), h (n + d) (by omega) (by omega)]; simp
theorem cnt_more (M n : Nat) : ∀ d, (∀ i, n ≤ i → i < n + d → M.testBit i = false) → cnt M (n + d) = cnt M n
 | 0, _ => rfl
 | d + 1, h => by
  show cnt M (n + d) + (if M.testBit (n + d) then 1 else 0) = _
  rw [cnt_more M n d (fun i h1 h2 => h i h1 (by omega)), h (n + d) (by omega) (by omega)]; simp
theorem high_nil {M n i : Nat} (h : M < 2 ^ n) (hi : n ≤ i) : M.testBit i = false :=
 Nat.testBit_lt_two_pow (Nat.lt_of_lt_of_le h (Nat.pow_le_pow_right (by decide) hi))
theorem left_64 {M : Nat} (h : M < 2 ^ 64) : left M 72 = left M 64 := left_more M 64 8 fun _ h1 _ => high_nil h h1
theorem cnt_64 {M : Nat} (h : M < 2 ^ 64) : cnt M 72 = cnt M 64 := cnt_more M 64 8 fun _ h1 _ => high_nil h h1
theorem left_pow {k : Nat} (hk : k < 72) : left (2 ^ k) 72 = place k := by
 have h2 : ∀ k, k < 72 → left (2 ^ k) 72 = place k := by decide +kernel
 exact h2 k hk
theorem check_cnt {p q : Nat} (hp : p < 128) (hq : q < 2) : cnt (2 ^ 64 * (p + 128 * q)) 72 = cnt p 7 + q := by
 have h2 : ∀ p, p < 128 → ∀ q, q < 2 → cnt (2 ^ 64 * (p + 128 * q)) 72 = cnt p 7 + q := by decide +kernel
 exact h2 p hp q hq
def encN (M : Nat) : Nat := left M 64 + 128 * ((cnt M 64 + cnt (left M 64) 7) % 2)
theorem xor_ne {a b : Nat} (h : a ≠ b) : a ^^^ b ≠ 0 := by
 intro h0
 apply h
 have := congrArg (· ^^^ b) h0
 simpa [Nat.xor_assoc] using this
theorem some_bit {D n : Nat} (h : D < 2 ^ n) (h0 : D ≠ 0) : ∃ i, i < n ∧ D.testBit i = true := by
 obtain ⟨i, hi⟩ := Nat.exists_testBit_of_ne_zero h0
 refine ⟨i, ?_, hi⟩
 rcases Nat.lt_or_ge i n with h1 | h1
 ·exact h1
 ·rw [high_nil h h1] at hi; cases hi
theorem flip_lt {D n i : Nat} (h : D < 2 ^ n) (hi : i < n) : D ^^^ 2 ^ i < 2 ^ n := Nat.xor_lt_two_pow h (Nat.pow_lt_pow_right (by decide) hi)
theorem cnt_zero : ∀ n, cnt 0 n = 0
 | 0 => rfl
 | n + 1 => by simp [cnt, cnt_zero n]
theorem apart {D : Nat} (h : D < 2 ^ 72) (h0 : D ≠ 0) (hl : left D 72 = 0) (he : cnt D 72 % 2 = 0) : 4 ≤ cnt D 72 := by
 obtain ⟨i, hi, bi⟩ := some_bit h h0
 have c1 := cnt_flip bi 72 hi
 have l1 := flip_lt h hi
 have n1 : D ^^^ 2 ^ i ≠ 0 := by
  intro e; rw [e, cnt_zero] at c1; omega
 obtain ⟨j, hj, bj⟩ := some_bit l1 n1
 have c2 := cnt_flip bj 72 hj
 have l2 := flip_lt l1 hj
 have hij : i ≠ j := by
  intro e; subst e
  rw [Nat.testBit_xor, bi, pow_testBit] at bj; simp at bj
 have n2 : D ^^^ 2 ^ i ^^^ 2 ^ j ≠ 0 := by
  intro e
  have h3 := left_xor (D ^^^ 2 ^ i) (2 ^ j) 72
  rw [left_xor D, hl, left_pow hi, left_pow hj, e, Nat.zero_xor, show left 0 72 = 0 by decide +kernel] at h3
  exact xor_ne (fun e2 => hij (place_inj hi hj e2)) h3.symm
 obtain ⟨k, hk, bk⟩ := some_bit l2 n2
 have c3 := cnt_flip bk 72 hk
 omega
end Go.Proofs.YtalefbmoebobkaaGreatDoor
/- Layer 3 of texts: what the document asks of Encode and Decode, and what follows from it. -/
namespace Go.Proofs.YtalefbmoebobkaaGreatDoor
set_option maxRecDepth 100000
open Go.RowKit
def encS (s : ByteArray) : ByteArray := ⟨(bs s ++ [UInt8.ofNat (encN (numN (bs s)))]).toArray⟩
theorem encS_size (s : ByteArray) : (encS s).size = s.size + 1 := by
 show (bs s ++ [UInt8.ofNat (encN (numN (bs s)))]).toArray.size = _
 simp [bs]
theorem num_lt (s : ByteArray) (h : s.size = 8) : numN (bs s) < 2 ^ 64 := by
 have := numN_lt (bs s)
 rwa [bs_length, h] at this
/- The reference of layer 1, as far as later layers lean on it: Put, Get. -/
def le : Int → Nat → List UInt8
 | _, 0 => []
 | v, n + 1 => UInt8.ofNat (v % 256).toNat :: le (v / 256) n
theorem le_length (n : Nat) : ∀ v, (le v n).length = n := by
 induction n with
 | zero => intro v; rfl
 | succ n ih => intro v; simp [le, ih]
def leS (v : Int) (n : Nat) : ByteArray := ⟨(le v n).toArray⟩
def rest : Int → Nat → Int
 | v, 0 => v
 | v, k + 1 => rest v k / 256
theorem bytes_eq {a b : ByteArray} (h : a.data.toList = b.data.toList) : a = b := by
 cases a; cases b
 simp only at h
 congr 1
 exact Array.toList_inj.1 h
theorem Tryz.info5 : (Tryz.prog.info? 5).map (fun i => (i.zero, i.size, i.bytes)) = some (some (.int .u8 0), 1, 1) := by kernel_rfl
def num : List UInt8 → Int
 | [] => 0
 | b :: l => (b.toNat : Int) + 256 * num l
def numTo (s : ByteArray) (k : Nat) : Int := num (s.data.toList.take k)
def pp (k : Nat) : Int := lo (p2 (8 * k)) 64
def numS (s : ByteArray) : Int := numTo s s.size
theorem leS_size (v : Int) (m : Nat) : (leS v m).size = m := by
 show (le v m).toArray.size = m
 rw [List.size_toArray, le_length]
/- Tags and their bytes: what the document asks of Encode, Decode and May, and what follows from it. -/
def MayT (k l q e : Int) : Prop := 1 ≤ k ∧ k ≤ 4 ∧ 0 ≤ l ∧ l ≤ 4096 ∧ 0 ≤ q ∧ q ≤ 281474976710655 ∧ 0 ≤ e ∧ e ≤ 4294967295
instance (k l q e : Int) : Decidable (MayT k l q e) := by unfold MayT; infer_instance
def mayB (k l q e : Int) : Bool := decide (MayT k l q e)
theorem mayB_iff (k l q e : Int) : mayB k l q e = true ↔ MayT k l q e := decide_eq_true_iff
def tagL (k l q e : Int) : List UInt8 := 27 :: UInt8.ofNat k.toNat :: (le l 2 ++ le q 6 ++ le e 4 ++ [0, 0])
def tagS (k l q e : Int) : ByteArray := ⟨(tagL k l q e).toArray⟩
theorem tagS_size (k l q e : Int) : (tagS k l q e).size = 16 := rfl
def byteT (s : ByteArray) (i : Nat) : Int := ((s.data.toList.getD i 0).toNat : Int)
def lT (s : ByteArray) : Int := numS (s.extract 2 4)
def qT (s : ByteArray) : Int := numS (s.extract 4 10)
def eT (s : ByteArray) : Int := numS (s.extract 10 14)
def FormT (s : ByteArray) : Prop := s.size = 16 ∧ byteT s 0 = 27 ∧ byteT s 14 = 0 ∧ byteT s 15 = 0
def OkT (s : ByteArray) : Prop := FormT s ∧ MayT (byteT s 1) (lT s) (qT s) (eT s)
instance (s : ByteArray) : Decidable (FormT s) := by unfold FormT; infer_instance
instance (s : ByteArray) : Decidable (OkT s) := by unfold OkT; infer_instance
/- The reference of layer 1, as far as later layers lean on it: Zeros. -/
def pop8 (n : Nat) : Nat := n % 2 + n / 2 % 2 + n / 4 % 2 + n / 8 % 2 + n / 16 % 2 + n / 32 % 2 + n / 64 % 2 + n / 128 % 2
def zs : List UInt8 → Nat
 | [] => 0
 | b :: l => pop8 (255 - b.toNat) + zs l
/- Layer 5 of texts: what the document asks of a page's bytes. -/
def LenOk (n : Nat) : Prop := 8 ≤ n ∧ n ≤ 256 ∧ n % 8 = 0
instance (n : Nat) : Decidable (LenOk n) := by unfold LenOk; infer_instance
def piece (s : ByteArray) (m k : Nat) : ByteArray := s.extract (m * k) (m * k + m)
theorem piece_size (s : ByteArray) (m k : Nat) (h : m * k + m ≤ s.size) : (piece s m k).size = m := by
 unfold piece; rw [ByteArray.size_extract]; omega
def chunks (s : ByteArray) : Nat → ByteArray
 | 0 => ByteArray.empty
 | k + 1 => chunks s k ++ encS (piece s 8 k)
theorem chunks_size (s : ByteArray) : ∀ k, 8 * k ≤ s.size → (chunks s k).size = 9 * k
 | 0, _ => rfl
 | k + 1, h => by
  show (chunks s k ++ encS (piece s 8 k)).size = _
  rw [ByteArray.size_append, chunks_size s k (by omega), encS_size, piece_size s 8 k (by omega)]; omega
theorem sealS_size (s : ByteArray) : (sealS s).size = s.size + 4 := by
 rw [← bs_length, bs_sealS]; unfold sealN; rw [List.length_append, bs_length]; rfl
def four0 : ByteArray := ⟨#[0, 0, 0, 0]⟩
def inner (k l q e : Int) (data : ByteArray) : ByteArray := sealS (tagS k l q e ++ data) ++ four0
theorem inner_size (k l q e : Int) (data : ByteArray) : (inner k l q e data).size = data.size + 24 := by
 unfold inner
 rw [ByteArray.size_append, sealS_size, ByteArray.size_append, tagS_size, show four0.size = 4 from rfl]; omega
def pageS (k l q e : Int) (data : ByteArray) : ByteArray := chunks (inner k l q e data) ((data.size + 24) / 8)
theorem pageS_size (k l q e : Int) (data : ByteArray) : (pageS k l q e data).size = (data.size + 24) / 8 * 9 := by
 unfold pageS
 rw [chunks_size _ _ (by rw [inner_size]; omega)]; omega
def frT (k l q e : Int) (data : ByteArray) : ByteArray := if LenOk data.size ∧ MayT k l q e then pageS k l q e data else ByteArray.empty
def frE (k l q e : Int) (data : ByteArray) : Int := if LenOk data.size then (if MayT k l q e then 0 else 1) else 2
def HoldsPage (all : ByteArray) : Prop := OkT (all.extract 0 16) ∧ all.extract (all.size - 4) all.size = four0 ∧ wholeB (all.extract 0 (all.size - 4)) = true
def ShapeOk (n : Nat) : Prop := n % 9 = 0 ∧ 36 ≤ n ∧ n ≤ 315
def pv (what k l q e : Int) (data : ByteArray) : Array Value := #[.int .i64 what, .int .i64 k, .int .i64 l, .int .i64 q, .int .i64 e, .string data]
instance (n : Nat) : Decidable (ShapeOk n) := by unfold ShapeOk; infer_instance
instance (all : ByteArray) : Decidable (HoldsPage all) := by unfold HoldsPage; infer_instance
def blankS (n : Nat) : ByteArray := ⟨(List.replicate ((n + 24) / 8 * 9) 255).toArray⟩
def blankT (n : Int) : ByteArray := if 0 ≤ n ∧ LenOk n.toNat then blankS n.toNat else ByteArray.empty
def first72 (a : Int) : Nat := (a % 72).toNat
def second72 (a b : Int) : Nat := (first72 a + 1 + (b % 71).toNat) % 72
def hurtT (s : ByteArray) (a b : Int) : ByteArray := if s.size < 9 then s else flipS (flipS s (first72 a / 8) (first72 a % 8)) (second72 a b / 8) (second72 a b % 8)
/- Layer 7: what the document asks of the steps of a block, in lists and numbers; all that follows is tried at each number of lines. -/
def refTo : Nat → List (Nat × Bool)
 | 0 => []
 | 1 => [(0, false)]
 | k + 2 => refTo (k + 1) ++ [(k + 1, false), (k, true)]
def refL (n : Nat) : List (Nat × Bool) := refTo n ++ [(n - 1, true)]
theorem refTo_length : ∀ k, 1 ≤ k → (refTo k).length = 2 * k - 1
 | 1, _ => rfl
 | k + 2, _ => by
  show (refTo (k + 1) ++ _).length = _
  rw [List.length_append, refTo_length (k + 1) (by omega)]
  simp only [List.length_cons, List.length_nil]; omega
theorem refL_length (n : Nat) (h : 1 ≤ n) : (refL n).length = 2 * n := by
 unfold refL
 rw [List.length_append, refTo_length n h]
 simp only [List.length_cons, List.length_nil]; omega
def stepC (n k : Nat) : Nat × Bool := if k = 0 then (0, false) else if k + 1 = 2 * n then (n - 1, true) else if k % 2 = 1 then ((k + 1) / 2, false) else (k / 2 - 1, true)
def placeC (n l : Nat) (f : Bool) : Nat := if f = true then (if l + 1 = n then 2 * n - 1 else 2 * l + 2) else (if l = 0 then 0 else 2 * l - 1)
def afterC (n k l : Nat) : Nat := if placeC n l true < k then 2 else if placeC n l false < k then 1 else 0
theorem refL_map : ∀ n, n ≤ 64 → 1 ≤ n → refL n = (List.range (2 * n)).map (stepC n) := by decide +kernel
theorem refL_at {n k : Nat} (h1 : 1 ≤ n) (h64 : n ≤ 64) (hk : k < 2 * n) : (refL n).getD k (0, false) = stepC n k := by
 rw [refL_map n h64 h1]
 simp [List.getD, hk]
theorem step_place {n l : Nat} (f : Bool) (h : l < n) : stepC n (placeC n l f) = (l, f) ∧ placeC n l f < 2 * n := by
 cases f
 ·have hp : placeC n l false = if l = 0 then 0 else 2 * l - 1 := rfl
  rw [hp]
  split
  ·rename_i h0
   exact ⟨by rw [h0]; rfl, by omega⟩
  ·unfold stepC
   rw [if_neg (by omega), if_neg (by omega), if_pos (by omega)]
   exact ⟨by congr 1; omega, by omega⟩
 ·have hp : placeC n l true = if l + 1 = n then 2 * n - 1 else 2 * l + 2 := rfl
  rw [hp]
  unfold stepC
  split
  ·rw [if_neg (by omega), if_pos (by omega)]
   exact ⟨by congr 1; omega, by omega⟩
  ·rw [if_neg (by omega), if_neg (by omega), if_neg (by omega)]
   exact ⟨by congr 1; omega, by omega⟩
theorem place_step {n k : Nat} (h : k < 2 * n) : placeC n (stepC n k).1 (stepC n k).2 = k ∧ (stepC n k).1 < n := by
 unfold stepC
 split
 ·rename_i h0
  exact ⟨by rw [h0]; rfl, by show 0 < n; omega⟩
 ·split
  ·refine ⟨?_, by show n - 1 < n; omega⟩
   show (if (n - 1) + 1 = n then 2 * n - 1 else 2 * (n - 1) + 2) = k
   rw [if_pos (by omega)]; omega
  ·split
   ·refine ⟨?_, by show (k + 1) / 2 < n; omega⟩
    show (if (k + 1) / 2 = 0 then 0 else 2 * ((k + 1) / 2) - 1) = k
    rw [if_neg (by omega)]; omega
   ·refine ⟨?_, by show k / 2 - 1 < n; omega⟩
    show (if (k / 2 - 1) + 1 = n then 2 * n - 1 else 2 * (k / 2 - 1) + 2) = k
    rw [if_neg (by omega)]; omega
theorem foggy_first (n l : Nat) : placeC n l false < placeC n l true := by
 show (if l = 0 then 0 else 2 * l - 1) < (if l + 1 = n then 2 * n - 1 else 2 * l + 2)
 split <;> split <;> omega
theorem after_succ {n k l : Nat} (hk : k < 2 * n) (hl : l < n) : afterC n (k + 1) l = afterC n k l + (if (stepC n k).1 = l then 1 else 0) := by
 have hp := place_step hk
 have hf := foggy_first n l
 have hsf := step_place false hl
 have hst := step_place true hl
 by_cases he : (stepC n k).1 = l
 ·rw [if_pos he]
  rw [he] at hp
  unfold afterC
  cases hb : (stepC n k).2 with
  | false =>
   rw [hb] at hp
   rw [if_neg (by omega), if_pos (by omega), if_neg (by omega), if_neg (by omega)]
  | true =>
   rw [hb] at hp
   rw [if_pos (by omega), if_neg (by omega), if_pos (by omega)]
 ·rw [if_neg he]
  have h1 : placeC n l false ≠ k := fun h => he (by rw [← h, hsf.1])
  have h2 : placeC n l true ≠ k := fun h => he (by rw [← h, hst.1])
  unfold afterC
  by_cases h3 : placeC n l true < k
  ·rw [if_pos (by omega), if_pos h3]
  ·rw [if_neg (by omega), if_neg h3]
   by_cases h4 : placeC n l false < k
   ·rw [if_pos (by omega), if_pos h4]
   ·rw [if_neg (by omega), if_neg h4]
theorem after_none (n l : Nat) : afterC n 0 l = 0 := by
 unfold afterC
 rw [if_neg (by omega), if_neg (by omega)]
theorem after_le (n k l : Nat) : afterC n k l ≤ 2 := by unfold afterC; split <;> (try split) <;> omega
def LinesOk (n : Int) : Prop := 1 ≤ n ∧ n ≤ 64
instance (n : Int) : Decidable (LinesOk n) := by unfold LinesOk; infer_instance
def cellsS (l : List (Nat × Bool)) : List Value := l.flatMap fun s => [.int .i64 (s.1 : Nat), .bool s.2]
theorem cellsS_append (a b : List (Nat × Bool)) : cellsS (a ++ b) = cellsS a ++ cellsS b := by simp [cellsS]
theorem cellsS_line : ∀ (l : List (Nat × Bool)) (j : Nat), j < l.length → (cellsS l)[2 * j]? = some (.int .i64 ((l.getD j (0, false)).1 : Nat))
 | [], j, h => absurd h (Nat.not_lt_zero j)
 | x :: l, 0, _ => rfl
 | x :: l, j + 1, h => by
  have := cellsS_line l j (by simpa using h)
  simpa [cellsS, List.flatMap_cons, show 2 * (j + 1) = 2 * j + 1 + 1 by omega] using this
theorem cellsS_fine : ∀ (l : List (Nat × Bool)) (j : Nat), j < l.length → (cellsS l)[2 * j + 1]? = some (.bool (l.getD j (0, false)).2)
 | [], j, h => absurd h (Nat.not_lt_zero j)
 | x :: l, 0, _ => rfl
 | x :: l, j + 1, h => by
  have := cellsS_fine l j (by simpa using h)
  simpa [cellsS, List.flatMap_cons, show 2 * (j + 1) + 1 = 2 * j + 1 + 1 + 1 by omega] using this
def sv (l : Int) (f : Bool) : Array Value := #[.int .i64 l, .bool f]
def IsStep (n k : Int) : Prop := LinesOk n ∧ 0 ≤ k ∧ k < 2 * n
def IsLine (n l : Int) : Prop := LinesOk n ∧ 0 ≤ l ∧ l < n
def IsAfter (n k l : Int) : Prop := LinesOk n ∧ 0 ≤ k ∧ k ≤ 2 * n ∧ 0 ≤ l ∧ l < n
instance (n k : Int) : Decidable (IsStep n k) := by unfold IsStep; infer_instance
instance (n l : Int) : Decidable (IsLine n l) := by unfold IsLine; infer_instance
instance (n k l : Int) : Decidable (IsAfter n k l) := by unfold IsAfter; infer_instance
def stL (n k : Int) : Int := if IsStep n k then ((stepC n.toNat k.toNat).1 : Nat) else 0
def stF (n k : Int) : Bool := if IsStep n k then (stepC n.toNat k.toNat).2 else false
def stC (n k : Int) : Int := if IsStep n k then 0 else 1
def plN (n l : Int) (f : Bool) : Int := if IsLine n l then (placeC n.toNat l.toNat f : Nat) else 0
def plC (n l : Int) : Int := if IsLine n l then 0 else 1
def afN (n k l : Int) : Int := if IsAfter n k l then (afterC n.toNat k.toNat l.toNat : Nat) else 0
def afC (n k l : Int) : Int := if IsAfter n k l then 0 else 1
def StepT (n k : Int) (w : World) (e : Ending) (w' : World) : Prop := e = .returned (.tuple #[.agg (sv (stL n k) (stF n k)), .int .i64 (stC n k)]) ∧ Below w.heap.size w w'
def PlaceT (n l : Int) (f : Bool) (w : World) (e : Ending) (w' : World) : Prop := e = .returned (.tuple #[.int .i64 (plN n l f), .int .i64 (plC n l)]) ∧ Below w.heap.size w w'
def AfterT (n k l : Int) (w : World) (e : Ending) (w' : World) : Prop := e = .returned (.tuple #[.int .i64 (afN n k l), .int .i64 (afC n k l)]) ∧ Below w.heap.size w w'
/- A cell: what the document asks of it, as a state and what each act makes of it. -/
structure St where
 L : Nat
 Y : Nat
 mode : Int
 done : Nat
 bad : Bool
 torn : Bool
 slc : Nat
 tlc : Nat
 ps : List ByteArray
 hs : List Bool
structure WfSt (s : St) : Prop where
 l1 : 1 ≤ s.L
 l64 : s.L ≤ 64
 y : LenOk s.Y
 done : s.done ≤ 2 * s.L
 psl : s.ps.length = 3 * s.L
 hsl : s.hs.length = 3 * s.L
 size : ∀ j, (s.ps.getD j ByteArray.empty).size ≤ 400
 mode : s.mode = 0 ∨ s.mode = 1 ∨ s.mode = 2
 slc : s.slc ≤ 1000000000
 tlc : s.tlc ≤ 1000000000
def hurtsB (k : Int) : Bool := k == 1 || k == 2
def pageT (p : ByteArray) (k a b : Int) : ByteArray := if hurtsB k = true then hurtT p a b else p
def putSt (s : St) (i : Nat) (p : ByteArray) (h : Bool) : St := { s with ps := s.ps.set i p, hs := s.hs.set i h }
def endSt (s : St) (k : Int) : St := if k = 1 then { s with torn := true } else if k = 2 then { s with bad := true } else s
def endC (k : Int) : Int := if k = 1 then 82 else if k = 2 then 81 else 0
def rawOf (y : Nat) : Nat := (y / 8 + 3) * 9
def takesB (s : St) (p : ByteArray) : Bool := p.size == rawOf s.Y
def newSt (l y : Nat) : St := ⟨l, y, 0, 0, false, false, 0, 0, List.replicate (3 * l) ByteArray.empty, List.replicate (3 * l) false⟩
def NewOk (l y : Int) : Prop := LinesOk l ∧ 0 ≤ y ∧ LenOk y.toNat
instance (l y : Int) : Decidable (NewOk l y) := by unfold NewOk LinesOk; infer_instance
def ProgOk (s : St) (line : Int) (p : ByteArray) : Prop := s.bad = false ∧ s.torn = false ∧ s.mode ≠ 2 ∧ line = s.done ∧ line < s.L ∧ takesB s p = true
instance (s : St) (line : Int) (p : ByteArray) : Decidable (ProgOk s line p) := by unfold ProgOk; infer_instance
def stepSt (s : St) (m : Int) : St := { s with mode := m, done := s.done + 1 }
def progSt (s : St) (line : Int) (p : ByteArray) (k a b : Int) : St :=
 if ProgOk s line p then endSt (putSt (stepSt s 1) (3 * line.toNat) (pageT p k a b) (hurtsB k)) k else s
def progC (s : St) (line : Int) (p : ByteArray) (k : Int) : Int := if ProgOk s line p then endC k else 80
def pageAt (s : St) (j : Nat) : ByteArray := s.ps.getD j ByteArray.empty
def TwoOk (s : St) (line : Int) (p q r : ByteArray) (f : Bool) : Prop :=
 s.bad = false ∧ s.torn = false ∧ s.mode ≠ 1 ∧ s.done < 2 * s.L ∧ line = ((stepC s.L s.done).1 : Nat) ∧ f = (stepC s.L s.done).2 ∧ takesB s p = true ∧ takesB s q = true ∧ takesB s r = true
  ∧ (f = true → pageAt s (3 * line.toNat) = p ∧ pageAt s (3 * line.toNat + 1) = q ∧ pageAt s (3 * line.toNat + 2) = r)
instance (s : St) (line : Int) (p q r : ByteArray) (f : Bool) : Decidable (TwoOk s line p q r f) := by unfold TwoOk; infer_instance
def put3 (s : St) (i : Nat) (p q r : ByteArray) (k a b : Int) : Nat → St
 | 0 => s
 | 1 => putSt s i (pageT p k a b) (hurtsB k)
 | 2 => putSt (putSt s i (pageT p k a b) (hurtsB k)) (i + 1) (pageT q k a b) (hurtsB k)
 | _ => putSt (putSt (putSt s i (pageT p k a b) (hurtsB k)) (i + 1) (pageT q k a b) (hurtsB k)) (i + 2) (pageT r k a b) (hurtsB k)
def twoSt (s : St) (line : Int) (p q r : ByteArray) (f : Bool) (k a b : Int) : St :=
 if TwoOk s line p q r f then endSt (put3 (stepSt s 2) (3 * line.toNat) p q r k a b 3) k else s
def twoC (s : St) (line : Int) (p q r : ByteArray) (f : Bool) (k : Int) : Int := if TwoOk s line p q r f then endC k else 80
def isFog (s : St) (j : Nat) : Bool := s.mode == 2 && afterC s.L s.done (j / 3) == 1
def atT (s : St) (j : Nat) : ByteArray :=
 if pageAt s j = ByteArray.empty then blankS s.Y else if s.hs.getD j false = true then pageAt s j else if isFog s j = true then hurtT (pageAt s j) 0 0 else pageAt s j
def atH (s : St) (j : Nat) : Bool :=
 if pageAt s j = ByteArray.empty then false else if s.hs.getD j false = true then true else isFog s j
def ReadOk (s : St) (line part : Int) : Prop := 0 ≤ line ∧ line < s.L ∧ 0 ≤ part ∧ part ≤ 2 ∧ ¬ (s.mode = 1 ∧ part ≠ 0)
instance (s : St) (line part : Int) : Decidable (ReadOk s line part) := by unfold ReadOk; infer_instance
def readT (s : St) (line part : Int) : ByteArray := if ReadOk s line part then atT s (3 * line.toNat + part.toNat) else ByteArray.empty
def readC (s : St) (line part : Int) : Int := if ReadOk s line part then 0 else 80
def moreSt (s : St) : St := if s.mode = 2 then { s with tlc := s.tlc + 1 } else { s with slc := s.slc + 1 }
def ruinT (s : St) (a b k : Int) (j : Nat) : ByteArray := if atH s j = true then atT s j else pageT (atT s j) k a b
def ruinTo (s t : St) (a b k : Int) : Nat → St
 | 0 => t
 | n + 1 => putSt (ruinTo s t a b k n) n (ruinT s a b k n) true
def slcSt (s : St) : St := if s.mode = 0 then { s with mode := 1 } else s
def eraseSt (s : St) (k a b : Int) : St :=
 if s.bad = true then s
 else if hurtsB k = true then endSt (slcSt (ruinTo (moreSt s) (moreSt s) a b k (3 * s.L))) k
 else { newSt s.L s.Y with slc := (moreSt s).slc, tlc := (moreSt s).tlc }
def eraseC (s : St) (k : Int) : Int := if s.bad = true then 80 else endC k
def cv (s : St) (g c h d : Nat) : Array Value := #[.int .i64 s.L, .int .i64 s.Y, .int .i64 s.mode, .int .i64 s.done, .bool s.bad, .bool s.torn, .int .i64 s.slc, .int .i64 s.tlc, .slice (some ⟨g, 0, none⟩) (3 * s.L) c, .slice (some ⟨h, 0, none⟩) (3 * s.L) d]
def zv : Array Value := #[.int .i64 0, .int .i64 0, .int .i64 0, .int .i64 0, .bool false, .bool false, .int .i64 0, .int .i64 0, .slice none 0 0, .slice none 0 0]
def fv (x k a b : Int) : Array Value := #[.int .i64 x, .int .i64 k, .int .i64 a, .int .i64 b]
def RdSl (w : World) (g cap : Nat) (cs : List Value) : Prop := cs.length ≤ cap ∧ ∀ j, j < cs.length → w.cell? ⟨g, j, none⟩ = cs[j]?
def strs (l : List ByteArray) : List Value := l.map Value.string
def bls (l : List Bool) : List Value := l.map Value.bool
def RAt (w : World) (s : St) (g c h d : Nat) : Prop := RdSl w g c (strs s.ps) ∧ RdSl w h d (bls s.hs)
theorem RdSl.keep {w w' : World} {g c : Nat} {cs : List Value} (h : RdSl w g c cs) (hg : w'.heap[g]? = w.heap[g]?) : RdSl w' g c cs := by
 obtain ⟨h2, h3⟩ := h
 refine ⟨h2, fun j hj => ?_⟩
 rw [← h3 j hj]
 simp only [World.cell?, hg]
theorem RdSl.lt {w : World} {g c : Nat} {cs : List Value} (h : RdSl w g c cs) (h0 : 0 < cs.length) : g < w.heap.size := by
 obtain ⟨h2, h3⟩ := h
 have h4 := h3 0 h0
 rw [List.getElem?_eq_getElem h0] at h4
 exact cell_lt h4
theorem RdSl.below {w w' : World} {B g c : Nat} {cs : List Value} (h : RdSl w g c cs) (hb : Below B w w') (hg : g < B) : RdSl w' g c cs := h.keep (hb.block g hg)
theorem strs_length (l : List ByteArray) : (strs l).length = l.length := by simp [strs]
theorem bls_length (l : List Bool) : (bls l).length = l.length := by simp [bls]
theorem strs_get (l : List ByteArray) (j : Nat) (h : j < l.length) : (strs l)[j]? = some (.string (l.getD j ByteArray.empty)) := by simp [strs, h]
theorem bls_get (l : List Bool) (j : Nat) (h : j < l.length) : (bls l)[j]? = some (.bool (l.getD j false)) := by simp [bls, h]
theorem RAt.lt {w : World} {s : St} {g c h d : Nat} (hr : RAt w s g c h d) (hw : WfSt s) : g < w.heap.size ∧ h < w.heap.size :=
 ⟨hr.1.lt (by rw [strs_length, hw.psl]; have := hw.l1; omega), hr.2.lt (by rw [bls_length, hw.hsl]; have := hw.l1; omega)⟩
theorem RAt.below {w w' : World} {s : St} {B g c h d : Nat} (hr : RAt w s g c h d) (hb : Below B w w') (hg : g < B) (hh : h < B) : RAt w' s g c h d := ⟨hr.1.below hb hg, hr.2.below hb hh⟩
theorem RAt.after {w w' : World} {s : St} {g c h d : Nat} (hr : RAt w s g c h d) (hw : WfSt s) (hb : Below w.heap.size w w') : RAt w' s g c h d := hr.below hb (hr.lt hw).1 (hr.lt hw).2
theorem RAt.keep {w w' : World} {s : St} {g c h d : Nat} (hr : RAt w s g c h d) (hg : w'.heap[g]? = w.heap[g]?) (hh : w'.heap[h]? = w.heap[h]?) : RAt w' s g c h d := ⟨hr.1.keep hg, hr.2.keep hh⟩
theorem RAt.page {w : World} {s : St} {g c h d : Nat} (hr : RAt w s g c h d) (hw : WfSt s) (j : Nat) (hj : j < 3 * s.L) : w.cell? ⟨g, j, none⟩ = some (.string (pageAt s j)) := by
 rw [hr.1.2 j (by rw [strs_length, hw.psl]; exact hj), strs_get _ _ (by rw [hw.psl]; exact hj)]; rfl
theorem RAt.mark {w : World} {s : St} {g c h d : Nat} (hr : RAt w s g c h d) (hw : WfSt s) (j : Nat) (hj : j < 3 * s.L) : w.cell? ⟨h, j, none⟩ = some (.bool (s.hs.getD j false)) := by
 rw [hr.2.2 j (by rw [bls_length, hw.hsl]; exact hj), bls_get _ _ (by rw [hw.hsl]; exact hj)]
theorem cv_one (s : St) (g c h d : Nat) : (cv s g c h d).all (·.oneCell') = true := by
 rw [Array.all_eq_true_iff_forall_mem]
 intro v hv
 simp [cv] at hv
 rcases hv with rfl | rfl | rfl | rfl | rfl | rfl | rfl | rfl | rfl | rfl <;> rfl
theorem hurtT_size (p : ByteArray) (a b : Int) : (hurtT p a b).size = p.size := by
 unfold hurtT
 split
 ·rfl
 ·have h1 : first72 a < 72 := by unfold first72; omega
  have h2 : second72 a b < 72 := by unfold second72; omega
  have h3 : (flipS p (first72 a / 8) (first72 a % 8)).size = p.size := flipS_size _ _ _ (by omega)
  rw [flipS_size _ _ _ (by rw [h3]; omega), h3]
theorem pageT_size (p : ByteArray) (k a b : Int) : (pageT p k a b).size = p.size := by
 unfold pageT
 split
 ·exact hurtT_size p a b
 ·rfl
theorem getD_set_size {l : List ByteArray} {i j : Nat} {p : ByteArray} {m : Nat} (h : ∀ j, (l.getD j ByteArray.empty).size ≤ m) (hp : p.size ≤ m) : ((l.set i p).getD j ByteArray.empty).size ≤ m := by
 rw [List.getD_eq_getElem?_getD, List.getElem?_set]
 split
 ·split
  ·simpa using hp
  ·simp
 ·rw [← List.getD_eq_getElem?_getD]; exact h j
theorem putSt_wf {s : St} (h : WfSt s) (i : Nat) {p : ByteArray} (hb : Bool) (hp : p.size ≤ 400) : WfSt (putSt s i p hb) := by
 obtain ⟨h1, h2, h3, h4, h5, h6, h7, h8, h9, h10⟩ := h
 exact ⟨h1, h2, h3, h4, by simp [putSt, h5], by simp [putSt, h6], fun j => getD_set_size h7 hp, h8, h9, h10⟩
theorem endSt_wf {s : St} (h : WfSt s) (k : Int) : WfSt (endSt s k) := by
 unfold endSt
 split
 ·obtain ⟨h1, h2, h3, h4, h5, h6, h7, h8, h9, h10⟩ := h
  exact ⟨h1, h2, h3, h4, h5, h6, h7, h8, h9, h10⟩
 ·split
  ·obtain ⟨h1, h2, h3, h4, h5, h6, h7, h8, h9, h10⟩ := h
   exact ⟨h1, h2, h3, h4, h5, h6, h7, h8, h9, h10⟩
  ·exact h
theorem stepSt_wf {s : St} (h : WfSt s) {m : Int} (hm : m = 1 ∨ m = 2) (hd : s.done < 2 * s.L) : WfSt (stepSt s m) := by
 obtain ⟨h1, h2, h3, h4, h5, h6, h7, h8, h9, h10⟩ := h
 exact ⟨h1, h2, h3, by show s.done + 1 ≤ 2 * s.L; omega, h5, h6, h7, by rcases hm with rfl | rfl <;> simp [stepSt], h9, h10⟩
theorem rawOf_le {y : Nat} (h : LenOk y) : rawOf y ≤ 400 := by
 obtain ⟨h1, h2, h3⟩ := h
 unfold rawOf; omega
theorem takes_size {s : St} (h : WfSt s) {p : ByteArray} (ht : takesB s p = true) : p.size ≤ 400 := by
 have := rawOf_le h.y
 unfold takesB at ht
 simp at ht
 omega
/- The reference of layer 5, walked: May, Rest, Hurt, Blank, Erased. -/
theorem rfr_may (n : Int) (w : World) : Calls Tryz.prog 69 #[.int .i64 n] w fun r w' => r = .returned (.bool (decide (0 ≤ n ∧ LenOk n.toNat))) ∧ w = w' := by
 go_enter Tryz.func69, Tryz.ntmps69
 go_wp2
 all_goals go_ret
 all_goals exact ⟨ret_bool (by unfold LenOk; rw [Bool.eq_iff_iff]; simp; try omega), rfl⟩
theorem rfr_rest (n by' : Int) (w : World) (h0 : 0 < by') (h1 : by' ≤ 1000) : Calls Tryz.prog 84 #[.int .i64 n, .int .i64 by'] w fun r w' => r = .returned (.int .i64 (n % by')) ∧ w = w' := by
 have hm := Int.tmod_eq_emod (a := n) (b := by')
 have hlt := Int.emod_lt_of_pos n h0
 have hge := Int.emod_nonneg n (b := by') (by omega)
 have hab : (by'.natAbs : Int) = by' := by omega
 obtain ⟨x, hx⟩ : ∃ x, n.tmod by' = x := ⟨_, rfl⟩
 obtain ⟨y, hy⟩ : ∃ y, n % by' = y := ⟨_, rfl⟩
 rw [hx, hy] at hm
 rw [hy] at hlt hge ⊢
 have hb' : by' ≠ 0 := by omega
 have hxy : (x < 0 → x + by' = y) ∧ (¬ x < 0 → x = y) := by
  by_cases hc : 0 ≤ n ∨ by' ∣ n
  ·rw [if_pos hc] at hm; omega
  ·rw [if_neg hc, hab] at hm; omega
 by_cases hneg : x < 0
 ·have hxy2 := hxy.1 hneg
  have hlo : -1000 ≤ x := by omega
  clear hm hy hxy
  go_enter Tryz.func84, Tryz.ntmps84
  go_wp2
  go_ret
  exact ⟨rfl, rfl⟩
 ·have hxy2 := hxy.2 hneg
  clear hm hy hxy
  subst hxy2
  go_enter Tryz.func84, Tryz.ntmps84
  go_wp2
  go_ret
  exact ⟨rfl, rfl⟩
theorem flip_any_ref (s : ByteArray) (k : Nat) (w : World) (hm : s.size ≤ 1000) (hk : k / 8 < s.size) :
  Calls Tryz.prog 83 #[.string s, .int .i64 k] w fun e w' => e = .returned (.tuple #[.string (flipS s (k / 8) (k % 8)), .int .i64 0]) ∧ Below w.heap.size w w' := by
 have h := rflip_yes s (k / 8) (k % 8) w hm hk (by omega)
 rwa [show 8 * ((k / 8 : Nat) : Int) + ((k % 8 : Nat) : Int) = (k : Int) by omega] at h
theorem rfr_hurt (s : ByteArray) (a b : Int) (w : World) (hs : s.size ≤ 1000) :
  Calls Tryz.prog 40 #[.string s, .int .i64 a, .int .i64 b] w fun r w' => r = .returned (.string (hurtT s a b)) ∧ Below w.heap.size w w' := by
 unfold hurtT
 by_cases h9 : s.size < 9
 ·rw [if_pos h9]
  have h9i : (s.size : Int) < 9 := by omega
  go_enter Tryz.func40, Tryz.ntmps40
  go_wp2
  go_ret
  exact ⟨rfl, Below.refl _ _⟩
 ·rw [if_neg h9]
  have h9i : ¬ (s.size : Int) < 9 := by omega
  obtain ⟨p, hp⟩ : ∃ p, first72 a = p := ⟨_, rfl⟩
  obtain ⟨q, hq⟩ : ∃ q, second72 a b = q := ⟨_, rfl⟩
  obtain ⟨m, hm⟩ : ∃ m : Nat, (b % 71).toNat = m := ⟨_, rfl⟩
  have hpa : a % 72 = (p : Int) := by rw [← hp]; unfold first72; omega
  have hmb : b % 71 = (m : Int) := by omega
  have hp72 : p < 72 := by omega
  have hm71 : m < 71 := by omega
  have hqe : q = (p + 1 + m) % 72 := by rw [← hq]; unfold second72; rw [hp, hm]
  have hqi : (((p : Int) + 1 + (m : Int)) % 72) = (q : Int) := by omega
  have hq72 : q < 72 := by omega
  rw [hp, hq]
  have HQ := Lib.hid hqi
  have HPA := Lib.hid hpa
  have HMB := Lib.hid hmb
  clear hp hq hm hpa hmb hqe hqi
  go_enter Tryz.func40, Tryz.ntmps40
  go_wp2_with fail
  refine (rfr_rest a 72 _ (by decide) (by decide)).mono ?_
  rintro r w' ⟨rfl, rfl⟩
  rw [HPA.out]
  go_wp2_with fail
  refine (flip_any_ref s p _ hs (by omega)).mono ?_
  rintro r w1 ⟨rfl, hb1⟩
  have HB1 := Lib.hid hb1
  have hz : (flipS s (p / 8) (p % 8)).size = s.size := flipS_size _ _ _ (by omega)
  obtain ⟨t, ht⟩ : ∃ t, flipS s (p / 8) (p % 8) = t := ⟨_, rfl⟩
  have HT := Lib.hid ht
  rw [ht] at hz ⊢
  clear ht hb1
  go_wp2_with fail
  refine (rfr_rest b 71 _ (by decide) (by decide)).mono ?_
  rintro r w' ⟨rfl, rfl⟩
  rw [HMB.out]
  go_wp2_with fail
  refine (rfr_rest ((p : Int) + 1 + (m : Int)) 72 _ (by decide) (by decide)).mono ?_
  rintro r w' ⟨rfl, rfl⟩
  rw [HQ.out]
  go_wp2_with fail
  refine (flip_any_ref t q _ (by omega) (by omega)).mono ?_
  rintro r w2 ⟨rfl, hb2⟩
  have HB2 := Lib.hid (HB1.out.trans (hb2.mono HB1.out.size))
  clear hb2
  go_wp2_with fail
  go_ret
  exact ⟨by rw [HT.out]; rfl, HB2.out⟩
/- The reference of layer 5, walked: Blank, Erased. -/
theorem rel_blank {w wr w1 : World} {b : Value} {k : Nat} (ho : w1.ownsRow w.heap.size 5 1 b (k + 1) (List.replicate k (Value.int .u8 255) ++ [.int .u8 255]))
  (hb : Below w.heap.size w wr) (hg : Below w.heap.size wr w1) :
  w1.ownsRow w.heap.size 5 1 b (k + 1) ((List.replicate (k + 1) (255 : Int)).map (Value.int .u8)) ∧ Below w.heap.size w w1 := by
 refine ⟨?_, hb.trans hg⟩
 rw [List.replicate_succ', List.map_append, List.map_replicate]; exact ho
theorem blank_str (m : Nat) : strOfNums (List.replicate m (255 : Int)) = ⟨(List.replicate m 255).toArray⟩ := by
 apply strOfNums_eq
 rw [List.map_replicate]; rfl
theorem rfr_blank (n : Int) (w : World) : Calls Tryz.prog 127 #[.int .i64 n] w fun r w' => r = .returned (.string (blankT n)) ∧ Below w.heap.size w w' := by
 unfold blankT
 by_cases hm : 0 ≤ n ∧ LenOk n.toNat
 ·rw [if_pos hm]
  have HD : Hid (decide (0 ≤ n ∧ LenOk n.toNat) = true) := decide_eq_true hm
  obtain ⟨h0, h1, h2, h3⟩ := hm
  obtain ⟨c, hc⟩ : ∃ c, (n.toNat + 24) / 8 * 9 = c := ⟨_, rfl⟩
  have hci : (n + 24) / 8 * 9 = (c : Int) := by omega
  have hc400 : c ≤ 400 := by omega
  have HB : Hid (blankS n.toNat = ⟨(List.replicate c 255).toArray⟩) := by unfold blankS; rw [hc]; exact rfl
  have hn256 : n ≤ 256 := by omega
  obtain ⟨i0, hi, hz0, hz1, hz2⟩ := info_parts Tryz.info5
  clear hc h1 h2 h3
  go_enter Tryz.func127, Tryz.ntmps127
  go_wp2_with fail
  refine (rfr_may n _).mono ?_
  rintro r w' ⟨rfl, rfl⟩
  rw [HD.out]
  go_wp2_with fail
  go_loopw [3, 4] (fun b i wr => ∃ k : Nat, k ≤ c ∧ i = .int .i64 k ∧ wr.ownsRow w.heap.size 5 1 b k ((List.replicate k (255 : Int)).map (Value.int .u8)) ∧ Below w.heap.size w wr) (fun _ i _ => c - (intOf i).toNat)
  case atStart => exact ⟨0, Nat.zero_le _, rfl, ⟨rfl, Or.inl ⟨rfl, rfl⟩⟩, Below.refl _ _⟩
  case round =>
   obtain ⟨k, hk, rfl, hown, hb⟩ := hrel
   by_cases hlt : k < c
   ·go_wp2_with (at_builtin; refine wpList_append_own _ rfl _ _ 112 rfl w.heap.size 5 i0 (.int .u8 0) 1 1 Tryz.underlying112 hi hz0 hz1 hz2 rfl (by decide) _ _ _ rfl (hown.alloc _) ⟨wr.heap.size, 0, none⟩ 1 1 [.int .u8 255] rfl rfl ?c1 ?c2 ?c3 ?c4 ?c5 ?_)
    case c1 => exact cell_one_new _ _ _
    case c2 => intro u hu; simp at hu; subst hu; rfl
    case c3 => unfold maxLen; omega
    case c4 => omega
    case c5 => have := hb.size; simp; omega
    intro v' w1 hown1 hgrow _
    have HR := Lib.hid (rel_blank hown1 hb (own_below hown hb.size hgrow))
    clear hown1 hgrow hown
    go_wp2
    go_roundw
    case rel => exact ⟨k + 1, by omega, by go_num, HR.out.1, HR.out.2⟩
    case measure => simp [intOf]; omega
   ·obtain rfl : k = c := by omega
    have hcv := conv_owned (P := Tryz.prog) (src := 112) (e := 5) (dst := 9) Tryz.underlying112 Tryz.underlying5 Tryz.underlying9 hown
    rw [blank_str] at hcv
    have hbw := Lib.hid hb
    clear hb hown
    go_wp2
    go_ret
    exact ⟨by rw [HB.out]; rfl, hbw.out⟩
 ·rw [if_neg hm]
  have HD : Hid (decide (0 ≤ n ∧ LenOk n.toNat) = false) := decide_eq_false hm
  clear hm
  go_enter Tryz.func127, Tryz.ntmps127
  go_wp2_with fail
  refine (rfr_may n _).mono ?_
  rintro r w' ⟨rfl, rfl⟩
  rw [HD.out]
  go_wp2_with fail
  go_ret
  exact ⟨rfl, Below.refl _ _⟩
/- A block of the call's own, whole: what a world holds in it, behind new blocks, calls, stores. -/
def Blk (w : World) (b : Nat) (cs : Array Value) (t : TypeId) : Prop := w.heap[b]? = some (.cells cs t (0, 0))
theorem Blk.lt {w : World} {b : Nat} {cs : Array Value} {t : TypeId} (h : Blk w b cs t) : b < w.heap.size := (Array.getElem?_eq_some_iff.1 h).1
theorem Blk.new (w : World) (cs : Array Value) (t : TypeId) : Blk (w.alloc (.cells cs t)) w.heap.size cs t := heap_alloc_new _ _
theorem Blk.alloc {w : World} {b : Nat} {cs : Array Value} {t : TypeId} (h : Blk w b cs t) (o : Obj) : Blk (w.alloc o) b cs t := by
 have hb := h.lt
 unfold Blk at *
 (first | rw [heap_alloc_old _ _ hb] | rw [heap_alloc_old _ _ _ hb]); exact h
theorem Blk.drew {w : World} {b : Nat} {cs : Array Value} {t : TypeId} (h : Blk w b cs t) : Blk w.drew b cs t := h
theorem Blk.drewN {w : World} {b n : Nat} {cs : Array Value} {t : TypeId} (h : Blk w b cs t) : Blk (w.drewN n) b cs t := h
theorem Blk.below {w w' : World} {b B : Nat} {cs : Array Value} {t : TypeId} (h : Blk w b cs t) (hb : Below B w w') (hB : b < B) : Blk w' b cs t := by
 unfold Blk at *
 rw [hb.block b hB]; exact h
theorem Blk.after {w w' : World} {b : Nat} {cs : Array Value} {t : TypeId} (h : Blk w b cs t) (hb : Below w.heap.size w w') : Blk w' b cs t := h.below hb h.lt
theorem Blk.cell {w : World} {b : Nat} {cs : Array Value} {t : TypeId} (h : Blk w b cs t) (i : Nat) : w.cell? ⟨b, i, none⟩ = cs[i]? := by
 unfold Blk at h; simp [World.cell?, h]
theorem Blk.free {w : World} {b : Nat} {cs : Array Value} {t : TypeId} (h : Blk w b cs t) (i : Nat) : w.frozen? ⟨b, i, none⟩ = false := by
 unfold Blk at h; simp [World.frozen?, h]
theorem Blk.set {w : World} {b : Nat} {cs ds : Array Value} {t : TypeId} (h : Blk w b cs t) (i : Nat) (v : Value) (he : cs.setIfInBounds i v = ds) : Blk (w.setCell ⟨b, i, none⟩ v) b ds t := by
 unfold Blk at *
 rw [heap_setCell_same _ _ _ _ _ _ h, he]
theorem Blk.set_other {w : World} {b c : Nat} {cs : Array Value} {t : TypeId} (h : Blk w b cs t) (hne : c ≠ b) (i : Nat) (v : Value) : Blk (w.setCell ⟨c, i, none⟩ v) b cs t := by
 unfold Blk at *
 rw [Below.heap_setCell _ _ _ _ (Ne.symm hne)]; exact h
theorem Blk.put {w : World} {b : Nat} {cs : Array Value} {t : TypeId} (h : Blk w b cs t) (ds : Array Value) : Blk (w.setRow b ds) b ds t := by
 unfold Blk at *
 exact setRow_heap w b cs ds _ _ h
theorem Blk.put_other {w : World} {b c : Nat} {cs : Array Value} {t : TypeId} (h : Blk w b cs t) (hne : c ≠ b) (ds : Array Value) : Blk (w.setRow c ds) b cs t := by
 unfold Blk at *
 simp only [World.setRow, Array.getElem?_modify]
 rw [if_neg hne]; exact h
theorem below_put {B g : Nat} {a w : World} (hB : B ≤ g) (cs : Array Value) (h : Below B a w) : Below B a (w.setRow g cs) := by
 have hk : ∀ k, k < B → (w.setRow g cs).heap[k]? = w.heap[k]? := by
  intro k hk
  simp only [World.setRow, Array.getElem?_modify]
  rw [if_neg (by omega)]
 obtain ⟨h1, h2, h3, h4, h5⟩ := h
 exact ⟨h1, h2, h3, by rw [size_setRow]; exact h4, fun k hk2 => by rw [hk k hk2]; exact h5 k hk2⟩
theorem wpList_load_row_if {P : Program} {ops : Array Oper} {rest : List Oper} {o : Oper} {a : Act} {w : World} {Q : Exit → Act → World → Prop} (hw : Region.wanted o (yielded ops a.tmps) = true) (ty : TypeId) (x : Operand) (ho : o.op = .load ty x)
  (g : Nat) (hx : a.eval x = .pointer (some ⟨g, 0, none⟩)) (t : TypeId) (cs : Array Value) (fr : Nat × Nat) (d : TypeDesc) (hg : w.heap[g]? = some (.cells cs t fr))
  (hu : P.underlying ty = some d) (hd : (match d with | .struct _ | .array _ _ => true | _ => false) = true) (hi : (P.info? ty).map (·.size) = some cs.size)
  (h : wpList P ops Q rest (a.put o.dst (.agg cs)) w) : wpList P ops Q (o :: rest) a w := by
 unfold wpList
 rw [if_pos hw]
 exact Or.inl (wp_load_row ty x ho g hx t cs fr d hg hu hd hi h)
theorem results_cell_tmp {P : Program} {fn : Func} {p q : Tmp} {ty : TypeId} (h : fn.results = #[.cell p ty, .tmp q]) (tmps : Array Value) (w : World) (g : Nat) (t : TypeId) (cs : Array Value) (d : TypeDesc)
  (hp : tmps.getD p undef = .pointer (some ⟨g, 0, none⟩)) (hg : Blk w g cs t)
  (hu : P.underlying ty = some d) (hd : (match d with | .struct _ | .array _ _ => true | _ => false) = true) (hi : (P.info? ty).map (·.size) = some cs.size) :
  (results fn tmps).run P w = .ok (.tuple #[.agg cs, tmps.getD q undef]) w := by
 have hp' : tmps[p]?.getD undef = .pointer (some ⟨g, 0, none⟩) := by simpa using hp
 simp [results, h, hp', asAddr, run_loadVar_row w g t ty cs (0, 0) d hg hu hd hi]
/- The reference of layer 7, walked: Steps. -/
theorem infoStep : (Tryz.prog.info? 131).map (fun i => (i.zero, i.size, i.bytes)) = some (some (.agg #[.int .i64 0, .bool false]), 2, 16) := by kernel_rfl
def OwnSteps (w : World) (B : Nat) (v : Value) (l : List (Nat × Bool)) : Prop := w.ownsRow B 131 2 v l.length (cellsS l)
theorem cells_new (w : World) (l : List Value) (t : TypeId) : ∀ j u, l[j]? = some u → (w.alloc (.cells l.toArray t)).cell? ((⟨w.heap.size, 0, none⟩ : Addr).add j) = some u := by
 intro j u h
 cases j with
 | zero => simp [Addr.add, h]
 | succ j => simp [Addr.add, h]
theorem own_below2 {wr w1 : World} {B n : Nat} {v : Value} {xs : List Value} {E : TypeId} {o : Obj} (hown : wr.ownsRow B E 2 v n xs) (hB : B ≤ wr.heap.size) (hgrow : (wr.alloc o).grownBy w1 v.ownBlock) : Below B wr w1 := by
 refine Below.grown (row := v.ownBlock) ((Below.refl _ _).alloc hB _) hgrow (by simp; omega) ?_
 intro g hg
 exact (hown.lt g hg).1
theorem refTo_succ (k : Nat) (h : 1 ≤ k) : refTo (k + 1) = refTo k ++ [(k, false), (k - 1, true)] := by
 obtain ⟨j, rfl⟩ : ∃ j, k = j + 1 := ⟨k - 1, by omega⟩
 rfl
theorem own_more {w1 : World} {B k : Nat} {v' : Value} (hk : 1 ≤ k) (h : w1.ownsRow B 131 2 v' (2 * k - 1 + 2) (cellsS (refTo k) ++ [.int .i64 k, .bool false, .int .i64 ((k : Int) - 1), .bool true])) : OwnSteps w1 B v' (refTo (k + 1)) := by
 unfold OwnSteps
 rw [refTo_length (k + 1) (by omega), refTo_succ k hk, cellsS_append, show 2 * (k + 1) - 1 = 2 * k - 1 + 2 by omega]
 have e : cellsS [(k, false), (k - 1, true)] = [.int .i64 k, .bool false, .int .i64 ((k : Int) - 1), .bool true] := by
  simp [cellsS]
  omega
 rw [e]
 exact h
theorem own_last {w1 : World} {B k : Nat} {v' : Value} (hk : 1 ≤ k) (h : w1.ownsRow B 131 2 v' (2 * k - 1 + 1) (cellsS (refTo k) ++ [.int .i64 ((k : Int) - 1), .bool true])) : OwnSteps w1 B v' (refL k) := by
 unfold OwnSteps
 rw [refL_length k hk]
 unfold refL
 rw [cellsS_append, show 2 * k = 2 * k - 1 + 1 by omega]
 have e : cellsS [(k - 1, true)] = [.int .i64 ((k : Int) - 1), .bool true] := by
  simp [cellsS]
  omega
 rw [e]
 exact h
theorem ror_steps (lines : Int) (w : World) : Calls Tryz.prog 153 #[.int .i64 lines] w fun e w' =>
  (∃ v, e = .returned v ∧ (LinesOk lines → OwnSteps w' w.heap.size v (refL lines.toNat)) ∧ (¬ LinesOk lines → v = .slice none 0 0)) ∧ Below w.heap.size w w' := by
 by_cases h : LinesOk lines
 ·obtain ⟨n, rfl⟩ : ∃ n : Nat, lines = n := ⟨lines.toNat, by unfold LinesOk at h; omega⟩
  have HL := Lib.hid h
  have hn1 : 1 ≤ n := by unfold LinesOk at h; omega
  have hn64 : n ≤ 64 := by unfold LinesOk at h; omega
  obtain ⟨i0, hi, hz0, hz1, hz2⟩ := info_parts infoStep
  clear h
  go_enter Tryz.func153, Tryz.ntmps153
  have hstart : OwnSteps (w.alloc (.cells #[.int .i64 0, .bool false] 131)) w.heap.size (.slice (some ⟨w.heap.size, 0, none⟩) 1 1) (refTo 1) :=
   ⟨rfl, Or.inr ⟨w.heap.size, 1, #[.int .i64 0, .bool false], rfl, Nat.le_refl _, heap_alloc_new _ _, Nat.le_refl _, by decide, rfl, rfl⟩⟩
  have HS := Lib.hid hstart
  clear hstart
  go_wp2_with fail
  go_loopw [3, 4] (fun v i wr => ∃ k : Nat, 1 ≤ k ∧ k ≤ n ∧ i = .int .i64 k ∧ OwnSteps wr w.heap.size v (refTo k) ∧ Below w.heap.size w wr) (fun _ i _ => n - (intOf i).toNat)
  case atStart => exact ⟨1, Nat.le_refl _, hn1, rfl, HS.out, (Below.refl _ _).alloc (Nat.le_refl _) _⟩
  case round =>
   obtain ⟨k, hk1, hkn, rfl, hown, hb⟩ := hrel
   have hlen := refTo_length k hk1
   have HB := Lib.hid hb
   clear hb
   by_cases hlt : k < n
   ·unfold OwnSteps at hown
    go_wp2_with (at_builtin; refine wpList_append_own _ rfl _ _ 189 rfl w.heap.size 131 i0 (.agg #[.int .i64 0, .bool false]) 2 16 Tryz.underlying189 hi hz0 hz1 hz2 rfl (by decide) _ _ _ rfl (hown.alloc _) ⟨wr.heap.size, 0, none⟩ 2 2 [.int .i64 k, .bool false, .int .i64 ((k : Int) - 1), .bool true] rfl rfl ?c1 ?c2 ?c3 ?c4 ?c5 ?_)
    case c1 => exact cells_new wr [.int .i64 k, .bool false, .int .i64 ((k : Int) - 1), .bool true] _
    case c2 => intro u hu; simp at hu; rcases hu with rfl | rfl | rfl | rfl <;> rfl
    case c3 => unfold maxLen; omega
    case c4 => omega
    case c5 => have := HB.out.size; simp; omega
    intro v' w1 hown1 hgrow _
    have HR := Lib.hid (own_more hk1 hown1)
    have HB1 := Lib.hid (HB.out.trans (own_below2 hown HB.out.size hgrow))
    clear hown1 hgrow hown
    go_wp2_with fail
    go_roundw
    case rel => exact ⟨k + 1, by omega, by omega, by go_num, HR.out, HB1.out⟩
    case measure => simp [intOf]; omega
   ·obtain rfl : k = n := by omega
    unfold OwnSteps at hown
    go_wp2_with (at_builtin; refine wpList_append_own _ rfl _ _ 189 rfl w.heap.size 131 i0 (.agg #[.int .i64 0, .bool false]) 2 16 Tryz.underlying189 hi hz0 hz1 hz2 rfl (by decide) _ _ _ rfl (hown.alloc _) ⟨wr.heap.size, 0, none⟩ 1 1 [.int .i64 ((k : Int) - 1), .bool true] rfl rfl ?c1 ?c2 ?c3 ?c4 ?c5 ?_)
    case c1 => exact cells_new wr [.int .i64 ((k : Int) - 1), .bool true] _
    case c2 => intro u hu; simp at hu; rcases hu with rfl | rfl <;> rfl
    case c3 => unfold maxLen; omega
    case c4 => omega
    case c5 => have := HB.out.size; simp; omega
    intro v' w1 hown1 hgrow _
    have HR := Lib.hid (own_last hk1 hown1)
    have HB1 := Lib.hid (HB.out.trans (own_below2 hown HB.out.size hgrow))
    clear hown1 hgrow hown
    go_wp2_with fail
    go_ret
    exact ⟨⟨v', rfl, fun _ => HR.out, fun h => absurd HL.out h⟩, HB1.out⟩
 ·have hc : lines < 1 ∨ ¬ lines < 1 ∧ 64 < lines := by unfold LinesOk at h; omega
  have HN := Lib.hid h
  clear h
  rcases hc with hc | ⟨hc, hc2⟩
  all_goals
   go_enter Tryz.func153, Tryz.ntmps153
   go_wp2_with fail
   go_ret
   exact ⟨⟨_, rfl, fun h => absurd h HN.out, fun _ => rfl⟩, Below.refl _ _⟩
/- The reference of layer 7, walked: At. -/
theorem OwnSteps.at {w : World} {B : Nat} {v : Value} {l : List (Nat × Bool)} (h : OwnSteps w B v l) (h1 : 1 ≤ l.length) : ∃ g cap, v = .slice (some ⟨g, 0, none⟩) l.length cap ∧ l.length ≤ cap ∧
  ∀ k, k < l.length → w.cell? ⟨g, k * 2, none⟩ = some (.int .i64 ((l.getD k (0, false)).1 : Nat)) ∧ w.cell? ⟨g, k * 2 + 1, none⟩ = some (.bool (l.getD k (0, false)).2) := by
 have hown := h
 unfold OwnSteps at hown
 rcases hown.2 with ⟨_, h0⟩ | ⟨g, cap, cur, rfl, _, _, hc, _, _, _⟩
 ·omega
 ·refine ⟨g, cap, rfl, hc, fun k hk => ⟨?_, ?_⟩⟩
  ·have := hown.cells (g := g) rfl (2 * k) _ (cellsS_line l k hk)
   rw [Nat.mul_comm 2 k] at this
   cases k with
   | zero => simpa [Addr.add] using this
   | succ k => simpa [Addr.add] using this
  ·have := hown.cells (g := g) rfl (2 * k + 1) _ (cellsS_fine l k hk)
   rw [Nat.mul_comm 2 k] at this
   simpa [Addr.add] using this
theorem size_step : (Tryz.prog.info? 131).map (·.size) = some 2 := by kernel_rfl
theorem sv_one (l : Int) (f : Bool) : (sv l f).all (·.oneCell') = true := by
 rw [Array.all_eq_true_iff_forall_mem]
 intro v hv
 simp [sv] at hv
 rcases hv with rfl | rfl <;> rfl
theorem ror_at (n k : Int) (w : World) : Calls Tryz.prog 134 #[.int .i64 n, .int .i64 k] w (StepT n k w) := by
 unfold StepT stL stF stC
 by_cases h : IsStep n k
 ·rw [if_pos h, if_pos h, if_pos h]
  obtain ⟨hl, h0, h2⟩ := h
  obtain ⟨m, rfl⟩ : ∃ m : Nat, n = m := ⟨n.toNat, by unfold LinesOk at hl; omega⟩
  obtain ⟨j, rfl⟩ : ∃ j : Nat, k = j := ⟨k.toNat, by omega⟩
  have hm1 : 1 ≤ m := by unfold LinesOk at hl; omega
  have hm64 : m ≤ 64 := by unfold LinesOk at hl; omega
  have hj : j < 2 * m := by omega
  have HL := Lib.hid hl
  have HA := Lib.hid (refL_at hm1 hm64 hj)
  have hlen := refL_length m hm1
  clear hl h0 h2
  rw [Int.toNat_natCast, Int.toNat_natCast]
  obtain ⟨⟨sl, sf⟩, hs⟩ : ∃ s, stepC m j = s := ⟨_, rfl⟩
  rw [hs]
  have HS := Lib.hid hs
  clear hs
  go_enter Tryz.func134, Tryz.ntmps134
  go_wp2_with fail
  refine (ror_steps (m : Int) _).mono ?_
  rintro e w1 ⟨⟨v, rfl, hv, _⟩, hb1⟩
  have hv := hv HL.out
  rw [Int.toNat_natCast] at hv
  obtain ⟨g, cap, rfl, hcap, hcs⟩ := hv.at (by omega)
  rw [hlen] at hcap ⊢
  have hcj := hcs j (by omega)
  rw [HA.out, HS.out] at hcj
  obtain ⟨hc1, hc2⟩ := hcj
  have hji : (j : Int) < ((2 * m : Nat) : Int) := by omega
  have HB : Hid (Below w.heap.size w w1) := ((Below.refl _ _).alloc (Nat.le_refl _) _).trans (hb1.mono (by simp))
  have HK := Lib.hid ((Blk.new w (sv 0 false) 131).after hb1)
  clear hb1 hv hcs
  go_wp2_with (refine wpList_store_row rfl 131 (.tmp 4) (.tmp 21) rfl w.heap.size (sv sl sf) rfl rfl 131 (sv 0 false) HK.out size_step rfl (sv_one _ _) ?_)
  exact bodyPost_ret (results_cell_tmp (P := Tryz.prog) rfl _ _ w.heap.size 131 (sv sl sf) _ rfl (HK.out.put _) Tryz.underlying131 rfl size_step) rfl ⟨rfl, below_put (Nat.le_refl _) _ HB.out⟩
 ·rw [if_neg h, if_neg h, if_neg h]
  by_cases hl : LinesOk n
  ·obtain ⟨m, rfl⟩ : ∃ m : Nat, n = m := ⟨n.toNat, by unfold LinesOk at hl; omega⟩
   have hm1 : 1 ≤ m := by unfold LinesOk at hl; omega
   have hm64 : m ≤ 64 := by unfold LinesOk at hl; omega
   have hk : k < 0 ∨ ¬ k < 0 ∧ 2 * (m : Int) ≤ k := by
    by_cases h0 : k < 0
    ·exact Or.inl h0
    ·refine Or.inr ⟨h0, ?_⟩
     by_cases h2 : 2 * (m : Int) ≤ k
     ·exact h2
     ·exact absurd ⟨hl, by omega, by omega⟩ h
   have HL := Lib.hid hl
   have hlen := refL_length m hm1
   clear hl h
   rcases hk with hk | ⟨hk, hk2⟩
   all_goals
    go_enter Tryz.func134, Tryz.ntmps134
    go_wp2_with fail
    refine (ror_steps (m : Int) _).mono ?_
    rintro e w1 ⟨⟨v, rfl, hv, _⟩, hb1⟩
    have hv := hv HL.out
    rw [Int.toNat_natCast] at hv
    obtain ⟨g, cap, rfl, hcap, hcs⟩ := hv.at (by omega)
    rw [hlen] at hcap ⊢
    have HB : Hid (Below w.heap.size w w1) := ((Below.refl _ _).alloc (Nat.le_refl _) _).trans (hb1.mono (by simp))
    have HK := Lib.hid ((Blk.new w (sv 0 false) 131).after hb1)
    clear hb1 hv hcs
    go_wp2_with (refine wpList_store_row rfl 131 (.tmp 4) (.tmp 17) rfl w.heap.size (sv 0 false) rfl rfl 131 (sv 0 false) HK.out size_step rfl (sv_one _ _) ?_)
    exact bodyPost_ret (results_cell_tmp (P := Tryz.prog) rfl _ _ w.heap.size 131 (sv 0 false) _ rfl (HK.out.put _) Tryz.underlying131 rfl size_step) rfl ⟨rfl, below_put (Nat.le_refl _) _ HB.out⟩
  ·have HN := Lib.hid hl
   have hk : k < 0 ∨ ¬ k < 0 := by omega
   clear hl h
   rcases hk with hk | hk
   all_goals
    go_enter Tryz.func134, Tryz.ntmps134
    go_wp2_with fail
    refine (ror_steps n _).mono ?_
    rintro e w1 ⟨⟨v, rfl, _, hv⟩, hb1⟩
    obtain rfl := hv HN.out
    have HB : Hid (Below w.heap.size w w1) := ((Below.refl _ _).alloc (Nat.le_refl _) _).trans (hb1.mono (by simp))
    have HK := Lib.hid ((Blk.new w (sv 0 false) 131).after hb1)
    clear hb1 hv
    go_wp2_with (refine wpList_store_row rfl 131 (.tmp 4) (.tmp 17) rfl w.heap.size (sv 0 false) rfl rfl 131 (sv 0 false) HK.out size_step rfl (sv_one _ _) ?_)
    exact bodyPost_ret (results_cell_tmp (P := Tryz.prog) rfl _ _ w.heap.size 131 (sv 0 false) _ rfl (HK.out.put _) Tryz.underlying131 rfl size_step) rfl ⟨rfl, below_put (Nat.le_refl _) _ HB.out⟩
/- The reference of layer 7, walked: Place, After. -/
theorem drewN_below2 (B : Nat) (w : World) (n : Nat) : Below B w (w.drewN n) := ⟨rfl, rfl, rfl, Nat.le_refl _, fun _ _ => rfl⟩
def sameS (l : Int) (f : Bool) (l' : Int) (f' : Bool) : Bool := l == l' && f == f'
theorem run_equalIn_bool (n : Nat) (f f' : Bool) (w : World) : Sem.run Tryz.prog (Op.equalIn (n + 1) 4 (.bool f) (.bool f')) w = .ok (f == f') w := by
 simp [Op.equalIn, run_underlying Tryz.underlying4]
theorem eql_step (l l' : Int) (f f' : Bool) (w : World) : Sem.run Tryz.prog (binOp .eql 131 (.agg #[.int .i64 l, .bool f]) (.agg #[.int .i64 l', .bool f'])) w = .ok (.bool (sameS l f l' f')) w := by
 rw [run_eql_struct, run_equalIn_agg _ _ _ _ _ (by kernel_rfl) (by kernel_rfl)]
 simp only [Program.fieldsOf, Tryz.underlying131]
 simp [Op.eqFields, part, isAgg, run_underlying Tryz.underlying3, run_underlying Tryz.underlying4, run_equalIn_int _ _ _ _ _ _ _ Tryz.underlying3, run_equalIn_bool, sameS]
 by_cases h1 : l = l' <;> cases f <;> cases f' <;> simp [h1]
theorem sameS_iff (l l' : Int) (f f' : Bool) : sameS l f l' f' = true ↔ l = l' ∧ f = f' := by simp [sameS]
/- The reference of layer 7, walked: After. -/
theorem ror_after_yes (m k l : Nat) (w : World) (hl : LinesOk m) (hk : k ≤ 2 * m) (hll : l < m) :
  Calls Tryz.prog 128 #[.int .i64 m, .int .i64 k, .int .i64 l] w fun e w' => e = .returned (.tuple #[.int .i64 (afterC m k l : Nat), .int .i64 0]) ∧ Below w.heap.size w w' := by
 have hm1 : 1 ≤ m := by unfold LinesOk at hl; omega
 have hm64 : m ≤ 64 := by unfold LinesOk at hl; omega
 have HL := Lib.hid hl
 have hlen := refL_length m hm1
 have HS : Hid (∀ i, i < 2 * m → (refL m).getD i (0, false) = stepC m i) := fun i hi => refL_at hm1 hm64 hi
 have HN : Hid (∀ i, i < 2 * m → afterC m (i + 1) l = afterC m i l + (if (stepC m i).1 = l then 1 else 0)) := fun i hi => after_succ hi hll
 have HLE : Hid (∀ i, afterC m i l ≤ 2) := fun i => after_le m i l
 have H0 := Lib.hid (after_none m l)
 have hki : (k : Int) ≤ 2 * (m : Int) := by omega
 have hli : (l : Int) < (m : Int) := by omega
 have hz0 : (2 * (m : Int) == 0) = false := by rw [Bool.eq_false_iff]; intro h; rw [beq_iff_eq] at h; omega
 clear hl
 go_enter Tryz.func128, Tryz.ntmps128
 go_wp2_with fail
 refine (ror_steps (m : Int) _).mono ?_
 rintro e w1 ⟨⟨v, rfl, hv, _⟩, hb1⟩
 have hv := hv HL.out
 rw [Int.toNat_natCast] at hv
 obtain ⟨g, cap, rfl, hcap, hcs⟩ := hv.at (by omega)
 rw [hlen] at hcap hcs ⊢
 have HCS := Lib.hid hcs
 have HB := Lib.hid hb1
 clear hb1 hv hcs
 go_wp2_with fail
 go_loop [9, 10] (fun c i => ∃ j : Nat, j ≤ k ∧ i = .int .i64 j ∧ c = .int .i64 (afterC m j l : Nat)) (fun _ i => k + 1 - (intOf i).toNat)
 case atStart => exact ⟨0, Nat.zero_le _, rfl, by rw [H0.out]; rfl⟩
 case round =>
  obtain ⟨j, hj, rfl, rfl⟩ := hrel
  have hle := HLE.out j
  obtain ⟨c, hc⟩ : ∃ c, afterC m j l = c := ⟨_, rfl⟩
  rw [hc] at hle ⊢
  have HC := Lib.hid hc
  clear hc
  by_cases hlt : j < k
  ·have hj2 : (j : Int) < 2 * (m : Int) := by omega
   obtain ⟨h1, _⟩ := HCS.out j (by omega)
   rw [HS.out j (by omega)] at h1
   have hn := HN.out j (by omega)
   obtain ⟨⟨sl, sf⟩, hs⟩ : ∃ s, stepC m j = s := ⟨_, rfl⟩
   rw [hs] at h1 hn
   rw [HC.out] at hn
   have HNX := Lib.hid hn
   clear hs hn
   by_cases hsl : sl = l
   ·have HR : Hid (afterC m (j + 1) l = c + 1) := HNX.out.trans (by rw [if_pos hsl])
    have hsi : (sl : Int) = (l : Int) := by omega
    have hsb : ((sl : Int) == (l : Int)) = true := by rw [beq_iff_eq]; exact hsi
    clear hsl hsi
    go_wp2_with fail
    go_round
    case rel => exact ⟨j + 1, by omega, by go_num, by rw [HR.out]; go_num⟩
    case measure => simp [intOf]; omega
   ·have HR : Hid (afterC m (j + 1) l = c) := HNX.out.trans (by rw [if_neg hsl]; rfl)
    have hsb : ((sl : Int) == (l : Int)) = false := by rw [Bool.eq_false_iff]; intro h; rw [beq_iff_eq] at h; omega
    clear hsl
    go_wp2_with fail
    go_round
    case rel => exact ⟨j + 1, by omega, by go_num, by rw [HR.out]⟩
    case measure => simp [intOf]; omega
  ·obtain rfl : j = k := by omega
   go_wp2_with fail
   go_ret2
   exact ⟨by rw [HC.out]; rfl, HB.out⟩
theorem ror_after_no (n k l : Int) (w : World) (h : ¬ IsAfter n k l) :
  Calls Tryz.prog 128 #[.int .i64 n, .int .i64 k, .int .i64 l] w fun e w' => e = .returned (.tuple #[.int .i64 0, .int .i64 1]) ∧ Below w.heap.size w w' := by
 by_cases hl : LinesOk n
 ·obtain ⟨m, rfl⟩ : ∃ m : Nat, n = m := ⟨n.toNat, by unfold LinesOk at hl; omega⟩
  have hm1 : 1 ≤ m := by unfold LinesOk at hl; omega
  have hm64 : m ≤ 64 := by unfold LinesOk at hl; omega
  have hc : k < 0 ∨ (¬ k < 0 ∧ 2 * (m : Int) < k) ∨ (¬ k < 0 ∧ ¬ 2 * (m : Int) < k ∧ l < 0) ∨ (¬ k < 0 ∧ ¬ 2 * (m : Int) < k ∧ ¬ l < 0 ∧ (m : Int) ≤ l) := by
   by_cases h1 : k < 0
   ·exact Or.inl h1
   ·by_cases h2 : 2 * (m : Int) < k
    ·exact Or.inr (Or.inl ⟨h1, h2⟩)
    ·by_cases h3 : l < 0
     ·exact Or.inr (Or.inr (Or.inl ⟨h1, h2, h3⟩))
     ·by_cases h4 : (m : Int) ≤ l
      ·exact Or.inr (Or.inr (Or.inr ⟨h1, h2, h3, h4⟩))
      ·exact absurd ⟨hl, by omega, by omega, by omega, by omega⟩ h
  have HL := Lib.hid hl
  have hlen := refL_length m hm1
  have hz0 : (2 * (m : Int) == 0) = false := by rw [Bool.eq_false_iff]; intro h; rw [beq_iff_eq] at h; omega
  clear hl h
  rcases hc with h1 | ⟨h1, h2⟩ | ⟨h1, h2, h3⟩ | ⟨h1, h2, h3, h4⟩
  all_goals
   go_enter Tryz.func128, Tryz.ntmps128
   go_wp2_with fail
   refine (ror_steps (m : Int) _).mono ?_
   rintro e w1 ⟨⟨v, rfl, hv, _⟩, hb1⟩
   have hv := hv HL.out
   rw [Int.toNat_natCast] at hv
   obtain ⟨g, cap, rfl, hcap, hcs⟩ := hv.at (by omega)
   rw [hlen] at hcap ⊢
   have HB := Lib.hid hb1
   clear hb1 hv hcs
   go_wp2_with fail
   go_ret2
   exact ⟨rfl, HB.out⟩
 ·have HN := Lib.hid hl
  clear hl h
  go_enter Tryz.func128, Tryz.ntmps128
  go_wp2_with fail
  refine (ror_steps n _).mono ?_
  rintro e w1 ⟨⟨v, rfl, _, hv⟩, hb1⟩
  obtain rfl := hv HN.out
  have HB := Lib.hid hb1
  clear hb1 hv
  go_wp2_with fail
  go_ret2
  exact ⟨rfl, HB.out⟩
theorem ror_after (n k l : Int) (w : World) : Calls Tryz.prog 128 #[.int .i64 n, .int .i64 k, .int .i64 l] w (AfterT n k l w) := by
 unfold AfterT afN afC
 by_cases h : IsAfter n k l
 ·rw [if_pos h, if_pos h]
  obtain ⟨hl, h0, h1, h2, h3⟩ := h
  obtain ⟨m, rfl⟩ : ∃ m : Nat, n = m := ⟨n.toNat, by unfold LinesOk at hl; omega⟩
  obtain ⟨j, rfl⟩ : ∃ j : Nat, k = j := ⟨k.toNat, by omega⟩
  obtain ⟨i, rfl⟩ : ∃ i : Nat, l = i := ⟨l.toNat, by omega⟩
  exact ror_after_yes m j i w hl (by omega) (by omega)
 ·rw [if_neg h, if_neg h]
  exact ror_after_no n k l w h
end Go.Proofs.YtalefbmoebobkaaGreatDoor
/- A region that draws its order, by a fact of each operation's value that stays true whatever comes after it: no order is looked at. -/
namespace Go.Proofs.YtalefbmoebobkaaGreatDoor
set_option maxRecDepth 100000
section
variable {P : Program} {ops : Array Oper} {Q : Exit → Act → World → Prop} {md : Region.Mode}
def still (n : Nat) (listed : Array Bool) : Nat := ((List.range n).filter fun i => !listed.getD i true).length
theorem still_zero {n : Nat} {listed : Array Bool} (h : still n listed = 0) : ∀ i, i < n → listed.getD i true = true := by
 intro i hi
 have h2 : (List.range n).filter (fun i => !listed.getD i true) = [] := List.eq_nil_of_length_eq_zero h
 have h3 := List.filter_eq_nil_iff.1 h2 i (List.mem_range.2 hi)
 simpa using h3
theorem filter_less {α : Type} (l : List α) (p q : α → Bool) (hpq : ∀ x, x ∈ l → q x = true → p x = true) (x : α) (hx : x ∈ l) (hp : p x = true) (hq : q x = false) : (l.filter q).length < (l.filter p).length := by
 induction l with
 | nil => cases hx
 | cons y l ih =>
  have hle : (l.filter q).length ≤ (l.filter p).length := by
   clear ih hx
   induction l with
   | nil => exact Nat.le_refl _
   | cons z l ih2 =>
    have hz := hpq z (by simp)
    have ih3 := ih2 (fun x hx => hpq x (by simp at hx ⊢; rcases hx with h | h <;> simp [h]))
    cases hq' : q z with
    | true => simp [hq', hz hq']; exact ih3
    | false => cases hp' : p z <;> simp [hq', hp'] <;> omega
  rcases List.mem_cons.1 hx with rfl | hx
  ·simp [hp, hq]; omega
  ·have ih4 := ih (fun z hz => hpq z (List.mem_cons_of_mem _ hz)) hx
   cases hq' : q y with
   | true => simp [hq', hpq y (by simp) hq']; exact ih4
   | false => cases hp' : p y <;> simp [hq', hp'] <;> omega
theorem still_less {n i : Nat} {listed : Array Bool} (hi : i < n) (h : listed.getD i true = false) : still n (listed.setIfInBounds i true) < still n listed := by
 unfold still
 refine filter_less _ _ _ ?_ i (List.mem_range.2 hi) (by simp [h]) ?_
 ·intro x _ hx
  by_cases e : i = x
  ·subst e
   have hs : i < listed.size := by
    rcases Nat.lt_or_ge i listed.size with h' | h'
    ·exact h'
    ·simp [Array.getD, Nat.not_lt.2 h'] at h
   simp [Array.getD, hs] at hx
  ·simp [getD_set_ne true e] at hx ⊢; exact hx
 ·have hs : i < listed.size := by
   rcases Nat.lt_or_ge i listed.size with h' | h'
   ·exact h'
   ·simp [Array.getD, Nat.not_lt.2 h'] at h
  simp [Array.getD, hs]
structure Plain (ops : Array Oper) (Base : Act → Prop) : Prop where
 before : ∀ (i : Nat) (o : Oper), ops[i]? = some o → ∀ e ∈ o.after, e.on < i
 own : ∀ (i : Nat) (o : Oper), ops[i]? = some o → ∃ d, o.dst = some d ∧ (∀ a, Base a → d < a.tmps.size) ∧ ∀ (j : Nat) (o' : Oper), ops[j]? = some o' → j ≠ i → ∃ d', o'.dst = some d' ∧ d ≠ d'
def AllFrom (X : Nat → Oper → Prop) : Nat → List Oper → Prop
 | _, [] => True
 | k, o :: l => X k o ∧ AllFrom X (k + 1) l
theorem AllFrom.at {X : Nat → Oper → Prop} : ∀ {l : List Oper} {k : Nat}, AllFrom X k l → ∀ j o, l[j]? = some o → X (k + j) o
 | [], _, _, j, o, h => by simp at h
 | p :: l, k, h, 0, o, ho => by simp at ho; subst ho; exact h.1
 | p :: l, k, h, j + 1, o, ho => by
  have := AllFrom.at h.2 j o (by simpa using ho)
  rwa [show k + 1 + j = k + (j + 1) by omega] at this
theorem AllFrom.all {X : Nat → Oper → Prop} {l : List Oper} (h : AllFrom X 0 l) : ∀ (i : Nat) (o : Oper), l.toArray[i]? = some o → X i o := fun i o ho => by
 have := AllFrom.at h i o (by simpa using ho)
 rwa [Nat.zero_add] at this
end
/- A region that draws its order, by facts of the frame and the world that each operation leaves, and that stay true whatever comes after it: no order is looked at; operations without a temporary (stores) too. -/
section
variable {P : Program} {ops : Array Oper} {Q : Exit → Act → World → Prop} {md : Region.Mode}
theorem put_slot {a : Act} {d : Option Tmp} {v : Value} {s : Tmp} (h : ∀ x, d = some x → x ≠ s) : (a.put d v).tmps.getD s undef = a.tmps.getD s undef := by
 cases d with
 | none => rfl
 | some x => simp [Act.put, Array.getD_eq_getD_getElem?, Array.getElem?_setIfInBounds_ne (h x rfl)]
theorem wpAny_facts2 {Base : Act → Prop} {C : World → Prop} {T : World → World → Prop} {R : Nat → Act → World → Prop} {S : Nat → List Tmp}
  (hbefore : ∀ (i : Nat) (o : Oper), ops[i]? = some o → ∀ e ∈ o.after, Region.binds md e = true → e.on < i)
  (hslots : ∀ (i j : Nat) (o o' : Oper), ops[i]? = some o → ops[j]? = some o' → j ≠ i → (∀ e ∈ o'.after, Region.binds md e = true → e.on ≠ i) → ∀ d, o.dst = some d → d ∉ S j)
  (hext : ∀ j a a' w w', R j a w → (∀ s ∈ S j, a'.tmps.getD s undef = a.tmps.getD s undef) → T w w' → R j a' w')
  (hbase : ∀ (i : Nat) (o : Oper), ops[i]? = some o → ∀ a v, Base a → Base (a.put o.dst v))
  (hops : ∀ (i : Nat) (o : Oper), ops[i]? = some o → ∀ a w, C w → Base a → (∀ e ∈ o.after, Region.binds md e = true → R e.on a w) →
   wpOp P ops Q i (fun a' w' => ∃ v, a' = a.put o.dst v ∧ C w' ∧ T w w' ∧ R i a' w') a w)
  (hfin : ∀ a w, C w → Base a → (∀ i, i < ops.size → R i a w) → Q .normal a w) :
  ∀ (fuel : Nat) (listed : Array Bool) (a : Act) (w : World), still ops.size listed ≤ fuel → listed.size = ops.size → C w → Base a →
   (∀ i, i < ops.size → listed.getD i true = true → R i a w ∧ ∀ o, ops[i]? = some o → ∀ e ∈ o.after, Region.binds md e = true → listed.getD e.on true = true) → wpAny P md ops Q fuel listed a w := by
 have all : ∀ (listed : Array Bool), listed.size = ops.size → Region.ready md ops listed = [] → ∀ i, i < ops.size → listed.getD i true = true := by
  intro listed hsz hr i
  induction i using Nat.strongRecOn with
  | ind i ih =>
   intro hi
   cases hl : listed.getD i true with
   | true => rfl
   | false =>
    exfalso
    have hm : i ∈ Region.ready md ops listed := by
     rw [mem_ready]
     refine ⟨hl, ops[i], by simp [hi], fun e he hb => ?_⟩
     have hlt := hbefore i ops[i] (by simp [hi]) e he hb
     have h2 := ih e.on hlt (by omega)
     have h3 : e.on < listed.size := by omega
     simp [Array.getD, h3] at h2 ⊢
     exact h2
    rw [hr] at hm; cases hm
 intro fuel
 induction fuel with
 | zero =>
  intro listed a w hst hsz hC hB hR
  have hall := still_zero (Nat.le_zero.1 hst)
  have hr : Region.ready md ops listed = [] := by
   cases h : Region.ready md ops listed with
   | nil => rfl
   | cons i l =>
    have hm : i ∈ Region.ready md ops listed := by rw [h]; exact List.mem_cons_self
    obtain ⟨h1, o, ho, _⟩ := mem_ready.1 hm
    have hi : i < ops.size := (Array.getElem?_eq_some_iff.1 ho).1
    rw [hall i hi] at h1; cases h1
  exact ⟨hr, hfin a w hC hB fun i hi => (hR i hi (hall i hi)).1⟩
 | succ fuel ih =>
  intro listed a w hst hsz hC hB hR
  refine ⟨fun hr => hfin a w hC hB fun i hi => (hR i hi (all listed hsz hr i hi)).1, fun i hi => ?_⟩
  obtain ⟨h1, o, ho, hdeps⟩ := mem_ready.1 hi
  have hin : i < ops.size := (Array.getElem?_eq_some_iff.1 ho).1
  have hdl : ∀ e ∈ o.after, Region.binds md e = true → listed.getD e.on true = true := by
   intro e he hb
   have hlt := hbefore i o ho e he hb
   have h2 := hdeps e he hb
   have h3 : e.on < listed.size := by omega
   simp [Array.getD, h3] at h2 ⊢
   exact h2
  refine wpOp_mono ?_ (hops i o ho a w hC hB fun e he hb => (hR e.on (by have := hbefore i o ho e he hb; omega) (hdl e he hb)).1)
  rintro a' w' ⟨v, rfl, hC', hT, hRv⟩
  have hless := still_less hin h1
  have keep : ∀ k, listed.getD k true = true → (listed.setIfInBounds i true).getD k true = true := by
   intro k hk
   by_cases e : k = i
   ·subst e
    have hs : k < listed.size := by omega
    simp [Array.getD, hs]
   ·rw [getD_set_ne true (Ne.symm e)]; exact hk
  refine ih _ _ _ (by omega) (by simp [hsz]) hC' (hbase i o ho a v hB) fun j hj hlj => ?_
  by_cases e : j = i
  ·subst e
   refine ⟨hRv, fun o' ho' e he hb => keep _ ?_⟩
   obtain rfl : o' = o := Option.some.inj (ho'.symm.trans ho)
   exact hdl e he hb
  ·rw [getD_set_ne true (Ne.symm e)] at hlj
   obtain ⟨hRj, hdj⟩ := hR j hj hlj
   refine ⟨hext j a _ w w' hRj (fun s hs => put_slot fun x hx hxs => ?_) hT, fun o' ho' e he hb => keep _ (hdj o' ho' e he hb)⟩
   subst hxs
   refine hslots i j o ops[j] ho (by simp [hj]) e (fun e' he' hb' hne => ?_) x hx hs
   have := hdj ops[j] (by simp [hj]) e' he' hb'
   rw [hne, h1] at this; cases this
def planB (l : List Oper) (S : List (List Tmp)) : Bool :=
 (List.range l.length).all fun i => match l[i]? with
  | none => true
  | some o => (o.after.all fun e => !Region.binds .any e || decide (e.on < i)) && (match o.dst with
   | none => true
   | some d => (List.range l.length).all fun j => j == i || (match l[j]? with
    | some o' => (o'.after.any fun e => Region.binds .any e && e.on == i) || !(S.getD j []).contains d
    | none => true))
theorem if_yes {c : Bool} {A B : Prop} (h : c = true) (hA : A) : if c = true then A else B := by rw [if_pos h]; exact hA
theorem if_no {c : Bool} {A B : Prop} (h : c = false) (hB : B) : if c = true then A else B := by rw [h]; exact hB
def Leaves (C : World → Prop) (T : World → World → Prop) (R : Nat → Act → World → Prop) (i : Nat) (o : Oper) (a : Act) (w : World) (a' : Act) (w' : World) : Prop := ∃ v, a' = a.put o.dst v ∧ C w' ∧ T w w' ∧ R i a' w'
theorem wp_region_list3 {id : Nat} {l : List Oper} {a : Act} {w : World} (S : List (List Tmp)) (Base : Act → Prop) (C : World → Prop) (T : World → World → Prop) (R : Nat → Act → World → Prop) (hm : P.follows .mixedOrders = true)
  (hpl : planB l S = true) (hext : ∀ j a a' w w', R j a w → (∀ s ∈ S.getD j [], a'.tmps.getD s undef = a.tmps.getD s undef) → T w w' → R j a' w')
  (hbase : AllFrom (fun _ o => ∀ a v, Base a → Base (a.put o.dst v)) 0 l) (hC : C { w with drawn := w.drawn + 1 }) (hB : Base a)
  (hops : AllFrom (fun i o => ∀ a w, C w → Base a → (∀ e ∈ o.after, Region.binds .any e = true → R e.on a w) →
   if Region.wanted o (yielded l.toArray a.tmps) = true then o.wp P a w (Leaves C T R i o a w) Q
   else Leaves C T R i o a w (a.put o.dst undef) w) 0 l)
  (hfin : ∀ a w, C w → Base a → (∀ i, i < l.length → R i a w) → Q .normal a w) : (Code.region id l.toArray true).wp P Q a w := by
 have hp := List.all_eq_true.1 hpl
 refine wp_region_any hm (wpAny_facts2 (S := fun j => S.getD j []) (Base := Base) (C := C) (T := T) (R := R) ?_ ?_ hext hbase.all
  (fun i o ho a w h1 h2 h3 => ?_)
  (fun a w h1 h2 h3 => hfin a w h1 h2 fun i hi => h3 i (by simpa using hi)) _ _ _ _ ?_ (by simp) hC hB ?_)
 ·intro i o ho e he hb
  have ho' : l[i]? = some o := by simpa using ho
  have h1 := hp i (List.mem_range.2 (List.getElem?_eq_some_iff.1 ho').1)
  simp only [ho', Bool.and_eq_true] at h1
  have h2 := (Array.all_eq_true_iff_forall_mem.1 h1.1) e he
  simpa [hb] using h2
 ·intro i j o o' ho ho' hne hno d hd
  have hi : l[i]? = some o := by simpa using ho
  have hj : l[j]? = some o' := by simpa using ho'
  have h1 := hp i (List.mem_range.2 (List.getElem?_eq_some_iff.1 hi).1)
  simp only [hi, hd, Bool.and_eq_true] at h1
  have h2 := List.all_eq_true.1 h1.2 j (List.mem_range.2 (List.getElem?_eq_some_iff.1 hj).1)
  simp only [hj, Bool.or_eq_true, beq_iff_eq] at h2
  rcases h2 with h2 | h2 | h2
  ·exact absurd h2 hne
  ·obtain ⟨k, hk, hb⟩ := Array.any_eq_true.1 h2
   obtain ⟨e, he⟩ : ∃ e, e = o'.after[k] := ⟨_, rfl⟩
   rw [← he] at hb
   have he : e ∈ o'.after := by rw [he]; exact Array.getElem_mem hk
   simp only [Bool.and_eq_true, beq_iff_eq] at hb
   exact absurd hb.2 (hno e he hb.1)
  ·intro hm
   simp at h2
   exact h2 hm
 ·have h4 := hops.all i o ho a w h1 h2 h3
  unfold wpOp
  simp only [ho]
  by_cases hw : Region.wanted o (yielded l.toArray a.tmps) = true
  ·rw [if_pos hw] at h4 ⊢
   exact Or.inl h4
  ·rw [if_neg hw] at h4 ⊢
   exact h4
 ·unfold still
  exact Nat.le_trans (List.length_filter_le _ _) (by simp)
 ·intro i hi h
  have hi' : i < l.length := by simpa using hi
  simp [Array.getD] at h
  omega
end
end Go.Proofs.YtalefbmoebobkaaGreatDoor
/- Facts of a drawn region's operations: a value in a slot each, or a fact of one's own. -/
namespace Go.Proofs.YtalefbmoebobkaaGreatDoor
set_option maxRecDepth 100000
open Go.RowKit
def RV (vs : List (Option (Tmp × Value))) (Sp : Nat → Act → World → Prop) (j : Nat) (a : Act) (w : World) : Prop :=
 match vs[j]? with
 | some (some (d, v)) => a.tmps.getD d undef = v
 | some none => Sp j a w
 | none => True
def SV (vs : List (Option (Tmp × Value))) (sp : List Tmp) : List (List Tmp) := vs.map fun o => match o with
 | some (d, _) => [d]
 | none => sp
theorem RV.ext {vs : List (Option (Tmp × Value))} {sp : List Tmp} {Sp : Nat → Act → World → Prop} {T : World → World → Prop}
  (hsp : ∀ j a a' w w', Sp j a w → (∀ d ∈ sp, a'.tmps.getD d undef = a.tmps.getD d undef) → T w w' → Sp j a' w') :
  ∀ j a a' w w', RV vs Sp j a w → (∀ s ∈ (SV vs sp).getD j [], a'.tmps.getD s undef = a.tmps.getD s undef) → T w w' → RV vs Sp j a' w' := by
 intro j a a' w w' h hd hT
 unfold RV at *
 rw [List.getD_eq_getElem?_getD] at hd
 cases hj : vs[j]? with
 | none => trivial
 | some o =>
  rw [hj] at h
  cases o with
  | none => exact hsp j a a' w w' h (fun d hm => hd d (by simp [SV, hj]; exact hm)) hT
  | some p => exact (hd p.1 (by simp [SV, hj])).trans h
def Goes (w w' : World) : Prop := Below w.heap.size w w'
theorem Goes.refl (w : World) : Goes w w := Below.refl _ _
/- The reference of layer 8, walked: hurts, page, takes, ends, New. -/
theorem size_cell : (Tryz.prog.info? 66).map (·.size) = some 10 := by kernel_rfl
theorem size_fault : (Tryz.prog.info? 40).map (·.size) = some 4 := by kernel_rfl
theorem rce_hurts (x k a b : Int) (w : World) : Calls Tryz.prog 91 #[.agg (fv x k a b)] w fun e w' => e = .returned (.bool (hurtsB k)) ∧ Below w.heap.size w w' := by
 unfold fv
 go_enter Tryz.func91, Tryz.ntmps91
 go_wp2
 all_goals go_ret
 all_goals exact ⟨ret_bool (by unfold hurtsB; first | rfl | (rw [Bool.eq_iff_iff]; simp; done) | (rw [Bool.eq_iff_iff]; simp; omega)), (Below.refl _ _).alloc (Nat.le_refl _) _⟩
theorem rce_page (p : ByteArray) (x k a b : Int) (w : World) (hs : p.size ≤ 1000) : Calls Tryz.prog 90 #[.string p, .agg (fv x k a b)] w fun e w' => e = .returned (.string (pageT p k a b)) ∧ Below w.heap.size w w' := by
 have HY : Hid (hurtsB k = true → pageT p k a b = hurtT p a b) := fun h => if_pos h
 have HN : Hid (hurtsB k = false → pageT p k a b = p) := fun h => if_neg (by rw [h]; simp)
 obtain ⟨t, ht⟩ : ∃ t, pageT p k a b = t := ⟨_, rfl⟩
 rw [ht] at HY HN ⊢
 clear ht
 have HB := Lib.hid ((Below.refl w.heap.size w).alloc (Nat.le_refl _) (.cells (fv x k a b) 40))
 have HF := Lib.hid (Blk.new w (fv x k a b) 40)
 obtain ⟨w1, hw1⟩ : ∃ w1, w.alloc (.cells (fv x k a b) 40) = w1 := ⟨_, rfl⟩
 rw [hw1] at HB HF
 have HW := Lib.hid hw1
 clear hw1
 go_enter Tryz.func90, Tryz.ntmps90
 go_wp2_with (first | (rw [HW.out]; refine wpList_load_row rfl 40 (.tmp 3) rfl w.heap.size rfl 40 (fv x k a b) (0, 0) _ HF.out Tryz.underlying40 rfl size_fault ?_))
 refine (rce_hurts x k a b _).mono ?_
 rintro e w2 ⟨rfl, hb2⟩
 have HF2 := Lib.hid (HF.out.after hb2)
 have HB2 := Lib.hid (HB.out.trans (hb2.mono HB.out.size))
 clear HF HB HW hb2
 have hc2 : w2.cell? ⟨w.heap.size, 2, none⟩ = some (.int .i64 a) := HF2.out.cell 2
 have hc3 : w2.cell? ⟨w.heap.size, 3, none⟩ = some (.int .i64 b) := HF2.out.cell 3
 obtain ⟨c, hc⟩ : ∃ c, hurtsB k = c := ⟨_, rfl⟩
 rw [hc] at HY HN ⊢
 clear hc
 cases c with
 | true =>
  have HT := Lib.hid (HY.out rfl)
  clear HY HN
  go_wp2_with fail
  refine (rfr_hurt p a b _ hs).mono ?_
  rintro e w3 ⟨rfl, hb3⟩
  have HB3 := Lib.hid (HB2.out.trans (hb3.mono HB2.out.size))
  clear hb3 hc2 hc3
  go_wp2_with fail
  go_ret
  exact ⟨by rw [HT.out]; rfl, HB3.out⟩
 | false =>
  have HT := Lib.hid (HN.out rfl)
  clear hc2 hc3 HY HN
  go_wp2_with fail
  go_ret
  exact ⟨by rw [HT.out]; rfl, HB2.out⟩
theorem rce_takes (s : St) (g c h d : Nat) (p : ByteArray) (w : World) (hw : WfSt s) : Calls Tryz.prog 87 #[.agg (cv s g c h d), .string p] w fun e w' => e = .returned (.bool (takesB s p)) ∧ Below w.heap.size w w' := by
 obtain ⟨y, hy⟩ : ∃ y, s.Y = y := ⟨_, rfl⟩
 have hl := hw.y
 have HB := Lib.hid ((Below.refl w.heap.size w).alloc (Nat.le_refl _) (.cells (cv s g c h d) 66))
 unfold takesB rawOf
 unfold cv at *
 rw [hy] at hl HB ⊢
 obtain ⟨h1, h2, h3⟩ := hl
 clear hy hw
 go_enter Tryz.func87, Tryz.ntmps87
 go_wp2_with fail
 go_ret
 exact ⟨ret_bool (by rw [Bool.eq_iff_iff]; simp; omega), HB.out⟩
/- The reference of layer 8, walked: ends, New. -/
theorem blk_third (w : World) (A B : Obj) (cs : Array Value) (t : TypeId) : Blk (((w.alloc A).alloc B).alloc (.cells cs t)) (w.heap.size + 1 + 1) cs t := by
 have h := Blk.new ((w.alloc A).alloc B) cs t
 rwa [World.size_alloc, World.size_alloc] at h
theorem rce_ends (s : St) (g c h d : Nat) (x k a b : Int) (w : World) :
  Calls Tryz.prog 88 #[.agg (cv s g c h d), .agg (fv x k a b)] w fun e w' => e = .returned (.tuple #[.agg (cv (endSt s k) g c h d), .int .i64 (endC k)]) ∧ Below w.heap.size w w' := by
 have HB : Hid (∀ A B C, Below w.heap.size w (((w.alloc A).alloc B).alloc C)) := fun A B C => (((Below.refl w.heap.size w).alloc (Nat.le_refl _) _).alloc (by simp) _).alloc (by simp; omega) _
 by_cases h1 : k = 1
 ·subst h1
  unfold fv cv endSt
  go_enter Tryz.func88, Tryz.ntmps88
  go_wp2_with fail
  exact bodyPost_ret (results_cell_tmp rfl _ _ (w.heap.size + 1 + 1) 66 _ _ rfl (blk_third w _ _ _ _) Tryz.underlying66 rfl size_cell) rfl ⟨rfl, HB.out _ _ _⟩
 ·by_cases h2 : k = 2
  ·subst h2
   unfold fv cv endSt
   go_enter Tryz.func88, Tryz.ntmps88
   go_wp2_with fail
   exact bodyPost_ret (results_cell_tmp rfl _ _ (w.heap.size + 1 + 1) 66 _ _ rfl (blk_third w _ _ _ _) Tryz.underlying66 rfl size_cell) rfl ⟨rfl, HB.out _ _ _⟩
  ·have he : endSt s k = s ∧ endC k = 0 := by unfold endSt endC; rw [if_neg h1, if_neg h2, if_neg h1, if_neg h2]; exact ⟨rfl, rfl⟩
   rw [he.1, he.2]
   unfold fv cv
   go_enter Tryz.func88, Tryz.ntmps88
   go_wp2_with fail
   exact bodyPost_ret (results_cell_tmp rfl _ _ (w.heap.size + 1 + 1) 66 _ _ rfl (blk_third w _ _ _ _) Tryz.underlying66 rfl size_cell) rfl ⟨rfl, HB.out _ _ _⟩
/- The reference of layer 8, walked: New. -/
theorem madeCells_one (z : Value) (n j : Nat) (h : j < n) : (madeCells #[z] n)[j]? = some z := by
 simp [madeCells, h, Nat.mod_one]
theorem rd_new (w : World) (z : Value) (n : Nat) (e : TypeId) : RdSl (w.alloc (.cells (madeCells #[z] n) e)) w.heap.size n (List.replicate n z) := by
 refine ⟨by simp, fun j hj => ?_⟩
 simp only [List.length_replicate] at hj
 rw [(Blk.new w (madeCells #[z] n) e).cell j, madeCells_one z n j hj, List.getElem?_replicate_of_lt hj]
theorem rd_second (w : World) (A B : Obj) (z : Value) (n : Nat) (e : TypeId) : 0 < n → RdSl (((w.alloc A).alloc (.cells (madeCells #[z] n) e)).alloc B).drew (w.heap.size + 1) n (List.replicate n z) := by
 intro hn
 have h := rd_new (w.alloc A) z n e
 rw [World.size_alloc] at h
 have hl := h.lt (by simpa using hn)
 exact RdSl.keep (RdSl.keep h (heap_alloc_old _ _ hl)) rfl
theorem rd_third (w : World) (A B : Obj) (z : Value) (n : Nat) (e : TypeId) : RdSl (((w.alloc A).alloc B).alloc (.cells (madeCells #[z] n) e)).drew (w.heap.size + 1 + 1) n (List.replicate n z) := by
 have h := rd_new ((w.alloc A).alloc B) z n e
 rw [World.size_alloc, World.size_alloc] at h
 exact RdSl.keep h rfl
theorem blk_first (w : World) (A B : Obj) (cs : Array Value) (t : TypeId) : Blk (((w.alloc (.cells cs t)).alloc A).alloc B).drew w.heap.size cs t := (((Blk.new w cs t).alloc A).alloc B).drew
theorem below_three (w : World) (A B C : Obj) : Below w.heap.size w (((w.alloc A).alloc B).alloc C).drew := Below.drew ((((Below.refl w.heap.size w).alloc (Nat.le_refl _) _).alloc (by simp) _).alloc (by simp; omega) _)
theorem new_strs (l y : Nat) : strs (newSt l y).ps = List.replicate (3 * l) (.string ByteArray.empty) := by simp [strs, newSt]
theorem new_bls (l y : Nat) : bls (newSt l y).hs = List.replicate (3 * l) (.bool false) := by simp [bls, newSt]
theorem infoStr : (Tryz.prog.info? 9).map (fun i => (i.zero, i.size, i.bytes)) = some (some (.string ByteArray.empty), 1, 16) := by kernel_rfl
theorem infoBool : (Tryz.prog.info? 4).map (fun i => (i.zero, i.size, i.bytes)) = some (some (.bool false), 1, 1) := by kernel_rfl
def NewT (l y : Int) (w : World) (e : Ending) (w' : World) : Prop :=
 (NewOk l y → ∃ g h c d, e = .returned (.tuple #[.agg (cv (newSt l.toNat y.toNat) g c h d), .int .i64 0]) ∧ RAt w' (newSt l.toNat y.toNat) g c h d ∧ w.heap.size ≤ g ∧ w.heap.size ≤ h)
 ∧ (¬ NewOk l y → e = .returned (.tuple #[.agg zv, .int .i64 60])) ∧ Below w.heap.size w w'
theorem rce_new (l y : Int) (w : World) : Calls Tryz.prog 27 #[.int .i64 l, .int .i64 y] w (NewT l y w) := by
 by_cases hok : NewOk l y
 ·obtain ⟨L, rfl⟩ : ∃ L : Nat, l = L := ⟨l.toNat, by unfold NewOk LinesOk at hok; omega⟩
  obtain ⟨Y, rfl⟩ : ∃ Y : Nat, y = Y := ⟨y.toNat, by unfold NewOk at hok; omega⟩
  have hD : decide (0 ≤ (Y : Int) ∧ LenOk (Y : Int).toNat) = true := decide_eq_true hok.2
  have HD := Lib.hid hD
  have h1 := hok.1.1
  have h2 := hok.1.2
  have HOK := Lib.hid hok
  have hmk1 := run_make_row' (P := Tryz.prog) 63 9 (.string ByteArray.empty) 16 Tryz.underlying63 infoStr rfl .i64 .i64 (3 * L) (by omega) (by omega)
  have hmk2 := run_make_row' (P := Tryz.prog) 64 4 (.bool false) 1 Tryz.underlying64 infoBool rfl .i64 .i64 (3 * L) (by omega) (by omega)
  have e3 : ((3 * L : Nat) : Int) = 3 * (L : Int) := by omega
  rw [e3] at hmk1 hmk2
  clear e3; clear hok hD
  go_enter Tryz.func27, Tryz.ntmps27
  go_wp2_with fail
  refine (rfr_may Y _).mono ?_
  rintro e w2 ⟨rfl, rfl⟩
  rw [HD.out]
  go_wp2_with fail
  go_region
  all_goals go_wp2_with fail
  ·refine bodyPost_ret (results_cell_tmp rfl _ _ w.heap.size 66 _ _ rfl (blk_first w _ _ _ _) Tryz.underlying66 rfl size_cell) rfl ⟨fun _ => ⟨_, _, _, _, rfl, ⟨?_, ?_⟩, ?_, ?_⟩, fun h => absurd HOK.out h, below_three w _ _ _⟩
   ·rw [new_strs]; exact rd_second w _ _ _ _ _ (by omega)
   ·rw [new_bls]; exact rd_third w _ _ _ _ _
   ·omega
   ·omega
  ·refine bodyPost_ret (results_cell_tmp rfl _ _ w.heap.size 66 _ _ rfl (blk_first w _ _ _ _) Tryz.underlying66 rfl size_cell) rfl ⟨fun _ => ⟨_, _, _, _, rfl, ⟨?_, ?_⟩, ?_, ?_⟩, fun h => absurd HOK.out h, below_three w _ _ _⟩
   ·rw [new_strs]; exact rd_third w _ _ _ _ _
   ·rw [new_bls]; exact rd_second w _ _ _ _ _ (by omega)
   ·omega
   ·omega
 ·have HNO := Lib.hid hok
  have hc : l < 1 ∨ (¬ l < 1 ∧ 64 < l) ∨ (¬ l < 1 ∧ ¬ 64 < l) := by omega
  have HD : Hid (¬ l < 1 → ¬ 64 < l → decide (0 ≤ y ∧ LenOk y.toNat) = false) := fun h1 h2 => decide_eq_false (fun h => HNO.out ⟨by unfold LinesOk; omega, h⟩)
  clear hok
  rcases hc with hc | ⟨hc, hc2⟩ | ⟨hc, hc2⟩
  ·go_enter Tryz.func27, Tryz.ntmps27
   go_wp2_with fail
   exact bodyPost_ret (results_cell_tmp rfl _ _ w.heap.size 66 _ _ rfl (Blk.new w _ _) Tryz.underlying66 rfl size_cell) rfl ⟨fun h => absurd h HNO.out, fun _ => rfl, (Below.refl _ _).alloc (Nat.le_refl _) _⟩
  ·go_enter Tryz.func27, Tryz.ntmps27
   go_wp2_with fail
   exact bodyPost_ret (results_cell_tmp rfl _ _ w.heap.size 66 _ _ rfl (Blk.new w _ _) Tryz.underlying66 rfl size_cell) rfl ⟨fun h => absurd h HNO.out, fun _ => rfl, (Below.refl _ _).alloc (Nat.le_refl _) _⟩
  ·have HD2 := Lib.hid (HD.out hc hc2)
   clear HD
   go_enter Tryz.func27, Tryz.ntmps27
   go_wp2_with fail
   refine (rfr_may y _).mono ?_
   rintro e w2 ⟨rfl, rfl⟩
   rw [HD2.out]
   go_wp2_with fail
   exact bodyPost_ret (results_cell_tmp rfl _ _ w.heap.size 66 _ _ rfl (Blk.new w _ _) Tryz.underlying66 rfl size_cell) rfl ⟨fun h => absurd h HNO.out, fun _ => rfl, (Below.refl _ _).alloc (Nat.le_refl _) _⟩
/- The reference of layer 8, walked: put. -/
theorem own_apart {w : World} {B1 B2 s1 s2 n1 n2 : Nat} {e1 e2 : TypeId} {v1 v2 : Value} {x1 x2 : List Value} (h1 : w.ownsRow B1 e1 s1 v1 n1 x1) (h2 : w.ownsRow B2 e2 s2 v2 n2 x2) (hne : e1 ≠ e2) : v1.ownBlock = none ∨ v1.ownBlock ≠ v2.ownBlock := by
 cases hb : v1.ownBlock with
 | none => exact Or.inl rfl
 | some b =>
  refine Or.inr fun hc => ?_
  obtain ⟨c1, f1, g1⟩ := Lib.ownsRow_kind h1 b hb
  obtain ⟨c2, f2, g2⟩ := Lib.ownsRow_kind h2 b hc.symm
  rw [g1] at g2
  simp at g2
  exact hne g2.2.1
theorem rd_own {w : World} {B n g cap : Nat} {e : TypeId} {xs : List Value} (h : w.ownsRow B e 1 (.slice (some ⟨g, 0, none⟩) n cap) n xs) (hx : xs.length = n) : RdSl w g cap xs ∧ B ≤ g := by
 have hlt := h.lt g rfl
 refine ⟨⟨?_, fun j hj => ?_⟩, hlt.1⟩
 ·rcases h.2 with ⟨hn, _⟩ | ⟨g', cap', cur, hv, _, _, hle, _⟩
  ·cases hn
  ·cases hv; omega
 ·exact h.cellAt j (by omega)
def putPs (s : St) (i : Nat) (p : ByteArray) (k : Nat) : List ByteArray := (s.ps.set i p).take k
def putHs (s : St) (i : Nat) (b : Bool) (k : Nat) : List Bool := (s.hs.set i b).take k
theorem putPs_succ {s : St} (hw : WfSt s) (i k : Nat) (p : ByteArray) (hk : k < 3 * s.L) : strs (putPs s i p (k + 1)) = strs (putPs s i p k) ++ [.string (if k = i then p else pageAt s k)] := by
 have h1 : k < (s.ps.set i p).length := by simp [hw.psl]; omega
 unfold putPs strs
 rw [List.take_add_one, List.map_append, List.getElem?_eq_getElem h1]
 simp only [Option.toList, List.map_cons, List.map_nil]
 rw [List.getElem_set]
 congr 2
 have h2 : k < s.ps.length := by rw [hw.psl]; exact hk
 split
 ·rw [if_pos (by omega)]
 ·rw [if_neg (by omega)]; simp [pageAt, h2]
theorem putHs_succ {s : St} (hw : WfSt s) (i k : Nat) (b : Bool) (hk : k < 3 * s.L) : bls (putHs s i b (k + 1)) = bls (putHs s i b k) ++ [.bool (if k = i then b else s.hs.getD k false)] := by
 have h1 : k < (s.hs.set i b).length := by simp [hw.hsl]; omega
 unfold putHs bls
 rw [List.take_add_one, List.map_append, List.getElem?_eq_getElem h1]
 simp only [Option.toList, List.map_cons, List.map_nil]
 rw [List.getElem_set]
 congr 2
 have h2 : k < s.hs.length := by rw [hw.hsl]; exact hk
 split
 ·rw [if_pos (by omega)]
 ·rw [if_neg (by omega)]; simp [h2]
theorem putPs_all {s : St} (hw : WfSt s) (i : Nat) (p : ByteArray) (b : Bool) : putPs s i p (3 * s.L) = (putSt s i p b).ps := List.take_of_length_le (by simp [hw.psl])
theorem putHs_all {s : St} (hw : WfSt s) (i : Nat) (p : ByteArray) (b : Bool) : putHs s i b (3 * s.L) = (putSt s i p b).hs := List.take_of_length_le (by simp [hw.hsl])
theorem putPs_len {s : St} (hw : WfSt s) (i k : Nat) (p : ByteArray) (hk : k ≤ 3 * s.L) : (strs (putPs s i p k)).length = k := by simp [strs, putPs, hw.psl]; omega
theorem putHs_len {s : St} (hw : WfSt s) (i k : Nat) (b : Bool) (hk : k ≤ 3 * s.L) : (bls (putHs s i b k)).length = k := by simp [bls, putHs, hw.hsl]; omega
theorem setRow_heap_ne (w : World) (b g : Nat) (cs : Array Value) (h : b ≠ g) : (w.setRow b cs).heap[g]? = w.heap[g]? := by
 simp only [World.setRow, Array.getElem?_modify]
 rw [if_neg h]
def CellT (s : St) (w : World) (e : Ending) (w' : World) : Prop := (∃ g c h d, e = .returned (.agg (cv s g c h d)) ∧ RAt w' s g c h d ∧ w.heap.size ≤ g ∧ w.heap.size ≤ h) ∧ Below w.heap.size w w'
set_option maxHeartbeats 1000000 in
theorem rce_put (s : St) (g c h d i : Nat) (p : ByteArray) (b : Bool) (w : World) (hw : WfSt s) (hr : RAt w s g c h d) :
  Calls Tryz.prog 89 #[.agg (cv s g c h d), .int .i64 (i : Nat), .string p, .bool b] w (CellT (putSt s i p b) w) := by
 obtain ⟨w2, hw2⟩ : ∃ w2, (w.alloc (.cells (cv s g c h d) 66)).alloc (.cells zv 66) = w2 := ⟨_, rfl⟩
 have hs2 : w2.heap.size = w.heap.size + 2 := by rw [← hw2, World.size_alloc, World.size_alloc]
 have hcb : Blk w2 w.heap.size (cv s g c h d) 66 := by rw [← hw2]; exact (Blk.new w _ _).alloc _
 have hzb : Blk w2 (w.heap.size + 1) zv 66 := by
  rw [← hw2]
  have h := Blk.new (w.alloc (.cells (cv s g c h d) 66)) zv 66
  rwa [World.size_alloc] at h
 have hbw : Below w.heap.size w w2 := by rw [← hw2]; exact ((Below.refl w.heap.size w).alloc (Nat.le_refl _) _).alloc (by simp) _
 have hlt := hr.lt hw
 have hr2 := hr.after hw hbw
 obtain ⟨n, hn⟩ : ∃ n, 3 * s.L = n := ⟨_, rfl⟩
 have hn3 : 3 ≤ n ∧ n ≤ 192 := by have := hw.l1; have := hw.l64; omega
 have HS : Hid (∀ k, k < n → strs (putPs s i p (k + 1)) = strs (putPs s i p k) ++ [.string (if k = i then p else pageAt s k)]) := fun k hk => putPs_succ hw i k p (by omega)
 have HS2 : Hid (∀ k, k < n → bls (putHs s i b (k + 1)) = bls (putHs s i b k) ++ [.bool (if k = i then b else s.hs.getD k false)]) := fun k hk => putHs_succ hw i k b (by omega)
 have HP : Hid (∀ k, k < n → ∀ wr, Below (w.heap.size + 2) w2 wr → wr.cell? ⟨g, k, none⟩ = some (.string (pageAt s k)) ∧ wr.cell? ⟨h, k, none⟩ = some (.bool (s.hs.getD k false))) := fun k hk wr hb =>
  ⟨(hr2.below hb (by omega) (by omega)).page hw k (by omega), (hr2.below hb (by omega) (by omega)).mark hw k (by omega)⟩
 have HK : Hid (∀ wr, Below (w.heap.size + 2) w2 wr → Blk wr w.heap.size (cv s g c h d) 66 ∧ Blk wr (w.heap.size + 1) zv 66) := fun wr hb => ⟨hcb.below hb (by omega), hzb.below hb (by omega)⟩
 have HWF := Lib.hid hw
 have HN := Lib.hid hn
 have HBW := Lib.hid hbw
 have HW := Lib.hid hw2
 have HS2' := Lib.hid hs2
 obtain ⟨i1, hi1, hz1, hz2, hz3⟩ := info_parts infoStr
 obtain ⟨i2, hi2, hy1, hy2, hy3⟩ := info_parts infoBool
 clear hr2 hcb hzb hbw hlt hw hr hw2 hs2
 go_enter Tryz.func89, Tryz.ntmps89
 go_wp2_with fail
 go_loopw [9, 10, 11] (fun vp vh iv wr => ∃ k : Nat, k ≤ n ∧ iv = .int .i64 k ∧ wr.ownsRow (w.heap.size + 2) 9 1 vp k (strs (putPs s i p k)) ∧ wr.ownsRow (w.heap.size + 2) 4 1 vh k (bls (putHs s i b k)) ∧ Below (w.heap.size + 2) w2 wr) (fun _ _ iv _ => n - (intOf iv).toNat)
 case atStart =>
  refine ⟨0, Nat.zero_le _, rfl, ⟨rfl, Or.inl ⟨rfl, rfl⟩⟩, ⟨rfl, Or.inl ⟨rfl, rfl⟩⟩, ?_⟩
  rw [← HW.out]
  exact Below.refl _ _
 case round =>
  obtain ⟨k, hk, rfl, hop, hoh, hb⟩ := hrel
  have hkb := HK.out wr hb
  have hc8 : wr.cell? ⟨w.heap.size, 8, none⟩ = some (.slice (some ⟨g, 0, none⟩) n c) := by rw [hkb.1.cell 8, ← HN.out]; rfl
  have hc9 : wr.cell? ⟨w.heap.size, 9, none⟩ = some (.slice (some ⟨h, 0, none⟩) n d) := by rw [hkb.1.cell 9, ← HN.out]; rfl
  have HB := Lib.hid hb
  have hsz : w.heap.size + 2 ≤ wr.heap.size := by have h1 := hb.size; have h2 := HS2'.out; omega
  clear hb
  by_cases hlt : k < n
  ·clear hkb
   have hpp := HP.out k hlt wr HB.out
   obtain ⟨hpk, hhk⟩ := hpp
   have hsp := HS.out k hlt
   have hsh := HS2.out k hlt
   by_cases he : k = i
   ·subst he
    rw [if_pos rfl] at hsp hsh
    have HSP := Lib.hid hsp
    have HSH := Lib.hid hsh
    clear hsp hsh
    go_wp2_with (at_builtin; refine wpList_append_own _ rfl _ _ 63 rfl (w.heap.size + 2) 9 i1 (.string ByteArray.empty) 1 16 Tryz.underlying63 hi1 hz1 hz2 hz3 rfl (by decide) _ _ _ rfl (hop.alloc _) ⟨wr.heap.size, 0, none⟩ 1 1 [.string p] rfl rfl ?c1 ?c2 ?c3 ?c4 ?c5 ?_)
    case c1 => exact cell_one_new _ _ _
    case c2 => intro u hu; simp at hu; subst hu; rfl
    case c3 => unfold maxLen; omega
    case c4 => omega
    case c5 => simp; omega
    intro v1 w3 hown1 hgrow1 _
    have hoh1 := World.ownsRow.kept (hoh.alloc _) hgrow1 (own_apart hoh hop (by decide))
    have HB1 := Lib.hid (HB.out.trans (own_below hop hsz hgrow1))
    have hsz1 : w.heap.size + 2 ≤ w3.heap.size := by have h1 := HB1.out.size; have h2 := HS2'.out; omega
    have hd9 : w3.cell? ⟨w.heap.size, 9, none⟩ = some (.slice (some ⟨h, 0, none⟩) n d) := by rw [(HK.out w3 HB1.out).1.cell 9, ← HN.out]; rfl
    have hdk := (HP.out k hlt w3 HB1.out).2
    clear hop hoh hgrow1 HB hc8 hc9 hpk hhk hsz
    go_wp2_with (at_builtin; refine wpList_append_own _ rfl _ _ 64 rfl (w.heap.size + 2) 4 i2 (.bool false) 1 1 Tryz.underlying64 hi2 hy1 hy2 hy3 rfl (by decide) _ _ _ rfl (hoh1.alloc _) ⟨w3.heap.size, 0, none⟩ 1 1 [.bool b] rfl rfl ?c1 ?c2 ?c3 ?c4 ?c5 ?_)
    case c1 => exact cell_one_new _ _ _
    case c2 => intro u hu; simp at hu; subst hu; rfl
    case c3 => unfold maxLen; omega
    case c4 => omega
    case c5 => simp; omega
    intro v2 w4 hown2 hgrow2 _
    have hop2 := World.ownsRow.kept (hown1.alloc _) hgrow2 (own_apart hown1 hoh1 (by decide))
    have HB2 := Lib.hid (HB1.out.trans (own_below hoh1 hsz1 hgrow2))
    have HO1 := Lib.hid hop2
    have HO2 := Lib.hid hown2
    clear hop2 hown2 hown1 hoh1 hgrow2 hd9 hdk HB1
    go_wp2_with fail
    go_roundw
    case rel => exact ⟨k + 1, by omega, by go_num, by rw [HSP.out]; exact HO1.out, by rw [HSH.out]; exact HO2.out, HB2.out⟩
    case measure => simp [intOf]; omega
   ·have hei : ¬ (k : Int) = (i : Int) := by omega
    rw [if_neg he] at hsp hsh
    have HSP := Lib.hid hsp
    have HSH := Lib.hid hsh
    clear hsp hsh
    go_wp2_with (at_builtin; refine wpList_append_own _ rfl _ _ 63 rfl (w.heap.size + 2) 9 i1 (.string ByteArray.empty) 1 16 Tryz.underlying63 hi1 hz1 hz2 hz3 rfl (by decide) _ _ _ rfl (hop.alloc _) ⟨wr.heap.size, 0, none⟩ 1 1 [.string (pageAt s k)] rfl rfl ?c1 ?c2 ?c3 ?c4 ?c5 ?_)
    case c1 => exact cell_one_new _ _ _
    case c2 => intro u hu; simp at hu; subst hu; rfl
    case c3 => unfold maxLen; omega
    case c4 => omega
    case c5 => simp; omega
    intro v1 w3 hown1 hgrow1 _
    have hoh1 := World.ownsRow.kept (hoh.alloc _) hgrow1 (own_apart hoh hop (by decide))
    have HB1 := Lib.hid (HB.out.trans (own_below hop hsz hgrow1))
    have hsz1 : w.heap.size + 2 ≤ w3.heap.size := by have h1 := HB1.out.size; have h2 := HS2'.out; omega
    have hd9 : w3.cell? ⟨w.heap.size, 9, none⟩ = some (.slice (some ⟨h, 0, none⟩) n d) := by rw [(HK.out w3 HB1.out).1.cell 9, ← HN.out]; rfl
    have hdk := (HP.out k hlt w3 HB1.out).2
    clear hop hoh hgrow1 HB hc8 hc9 hpk hhk hsz
    go_wp2_with (at_builtin; refine wpList_append_own _ rfl _ _ 64 rfl (w.heap.size + 2) 4 i2 (.bool false) 1 1 Tryz.underlying64 hi2 hy1 hy2 hy3 rfl (by decide) _ _ _ rfl (hoh1.alloc _) ⟨w3.heap.size, 0, none⟩ 1 1 [.bool (s.hs.getD k false)] rfl rfl ?c1 ?c2 ?c3 ?c4 ?c5 ?_)
    case c1 => exact cell_one_new _ _ _
    case c2 => intro u hu; simp at hu; subst hu; rfl
    case c3 => unfold maxLen; omega
    case c4 => omega
    case c5 => simp; omega
    intro v2 w4 hown2 hgrow2 _
    have hop2 := World.ownsRow.kept (hown1.alloc _) hgrow2 (own_apart hown1 hoh1 (by decide))
    have HB2 := Lib.hid (HB1.out.trans (own_below hoh1 hsz1 hgrow2))
    have HO1 := Lib.hid hop2
    have HO2 := Lib.hid hown2
    clear hop2 hown2 hown1 hoh1 hgrow2 hd9 hdk HB1
    go_wp2_with fail
    go_roundw
    case rel => exact ⟨k + 1, by omega, by go_num, by rw [HSP.out]; exact HO1.out, by rw [HSH.out]; exact HO2.out, HB2.out⟩
    case measure => simp [intOf]; omega
  ·obtain rfl : k = n := by omega
   obtain ⟨g', c', rfl⟩ := Joins.ownsRow_form hop (by omega)
   obtain ⟨h', d', rfl⟩ := Joins.ownsRow_form hoh (by omega)
   have hg' := rd_own hop (by rw [putPs_len HWF.out i k p (by rw [HN.out]; exact Nat.le_refl _)])
   have hh' := rd_own hoh (by rw [putHs_len HWF.out i k b (by rw [HN.out]; exact Nat.le_refl _)])
   have hps : putPs s i p k = (putSt s i p b).ps := by rw [← HN.out]; exact putPs_all HWF.out i p b
   have hhs : putHs s i b k = (putSt s i p b).hs := by rw [← HN.out]; exact putHs_all HWF.out i p b
   rw [hps] at hg'
   rw [hhs] at hh'
   have HG := Lib.hid hg'
   have HH := Lib.hid hh'
   have hf8 := hkb.1.free 8
   have h1 : Blk (wr.setCell ⟨w.heap.size, 8, none⟩ (.slice (some ⟨g', 0, none⟩) k c')) w.heap.size _ 66 := hkb.1.set 8 _ rfl
   have hf9 := h1.free 9
   have hc9' : (wr.setCell ⟨w.heap.size, 8, none⟩ (.slice (some ⟨g', 0, none⟩) k c')).cell? ⟨w.heap.size, 9, none⟩ = some (.slice (some ⟨h, 0, none⟩) (3 * s.L) d) := by rw [h1.cell 9]; rfl
   have h2 : Blk ((wr.setCell ⟨w.heap.size, 8, none⟩ (.slice (some ⟨g', 0, none⟩) k c')).setCell ⟨w.heap.size, 9, none⟩ (.slice (some ⟨h', 0, none⟩) k d')) w.heap.size (cv (putSt s i p b) g' c' h' d') 66 := h1.set 9 _ (by rw [← HN.out]; rfl)
   have h3 : Blk ((wr.setCell ⟨w.heap.size, 8, none⟩ (.slice (some ⟨g', 0, none⟩) k c')).setCell ⟨w.heap.size, 9, none⟩ (.slice (some ⟨h', 0, none⟩) k d')) (w.heap.size + 1) zv 66 := (hkb.2.set_other (by omega) _ _).set_other (by omega) _ _
   have HC2 := Lib.hid h2
   have HC3 := Lib.hid h3
   clear hop hoh hps hhs hg' hh' h1 h2 h3 hkb hi1 hi2 hz1 hz2 hz3 hy1 hy2 hy3
   go_wp2_with (first
    | (refine wpList_load_row rfl 66 (.tmp 4) rfl w.heap.size rfl 66 (cv (putSt s i p b) g' c' h' d') (0, 0) _ HC2.out Tryz.underlying66 rfl size_cell ?_)
    | (refine wpList_store_row rfl 66 (.tmp 8) (.tmp 57) rfl (w.heap.size + 1) (cv (putSt s i p b) g' c' h' d') rfl rfl 66 zv HC3.out size_cell rfl (cv_one _ _ _ _ _) ?_))
   refine bodyPost_ret (results_cell_row (P := Tryz.prog) rfl _ _ (w.heap.size + 1) 66 (cv (putSt s i p b) g' c' h' d') (0, 0) _ rfl (HC3.out.put _) Tryz.underlying66 rfl size_cell) rfl ⟨⟨g', c', h', d', rfl, ⟨?_, ?_⟩, ?_, ?_⟩, ?_⟩
   ·exact HG.out.1.keep ((setRow_heap_ne _ _ _ _ (by have := HG.out.2; omega)).trans ((Below.heap_setCell _ _ _ _ (by have := HG.out.2; simp; omega)).trans (Below.heap_setCell _ _ _ _ (by have := HG.out.2; simp; omega))))
   ·exact HH.out.1.keep ((setRow_heap_ne _ _ _ _ (by have := HH.out.2; omega)).trans ((Below.heap_setCell _ _ _ _ (by have := HH.out.2; simp; omega)).trans (Below.heap_setCell _ _ _ _ (by have := HH.out.2; simp; omega))))
   ·have := HG.out.2; omega
   ·have := HH.out.2; omega
   ·exact below_put (by omega) _ (((HBW.out.trans (HB.out.mono (by omega))).setCell (Nat.le_refl _) _).setCell (Nat.le_refl _) _)
end Go.Proofs.YtalefbmoebobkaaGreatDoor
