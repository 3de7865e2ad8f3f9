/- Texts of one claim, merged: Kit, Bs, CrcM, CrcR1, CrcR2, CrcR3, BitsM, Ref1, Ref1T. -/
import Derived.Test.YtjmoecfgpfdncaaDoorRows
import Derived.WalkKit
import Derived.ProofKit
import Derived.OpenShut
import Derived.Outline
import Derived.Lib.Hide
import Derived.WalkLawsBesides
import Derived.WalkSpells
import Derived.Handy
import Derived.Laws.BytesArg
import Derived.Laws.AppendOwn
import Derived.Lib.ConvBytes
import Derived.Deep.OwnRows
import Derived.RowKit
import Derived.Laws.Bits64b
import Derived.Laws.BitsLemmas

/- Small lemmas of no one stage: what a call returns, slices of bytes that the call owns, turned into a text. -/
namespace Go.Proofs.YtjmoecfgpfdncaaDoor
open Go.RowKit

theorem ret_int {k : IntKind} {a b : Int} (h : a = b) : Ending.returned (.int k a) = .returned (.int k b) := by rw [h]
theorem ret_bool {a b : Bool} (h : a = b) : Ending.returned (.bool a) = .returned (.bool b) := by rw [h]
theorem ret_fst {k : IntKind} {a b : Int} {x : Value} (h : a = b) : Ending.returned (.tuple #[.int k a, x]) = .returned (.tuple #[.int k b, x]) := by rw [h]
theorem ret_str {a b : ByteArray} {x : Value} (h : a = b) : Ending.returned (.tuple #[.string a, x]) = .returned (.tuple #[.string b, x]) := by rw [h]
theorem ret_tup {a b : Array Value} (h : a = b) : Ending.returned (.tuple a) = .returned (.tuple b) := by rw [h]

theorem strOfNums_eq (xs : List Int) (l : List UInt8) (h : xs.map (fun n => UInt8.ofNat n.toNat) = l) : strOfNums xs = ⟨l.toArray⟩ := by unfold strOfNums; rw [h]

theorem cell_lt {w : World} {a : Addr} {v : Value} (h : w.cell? a = some v) : a.block < w.heap.size := by
  rcases Nat.lt_or_ge a.block w.heap.size with h2 | h2
  · exact h2
  · simp [World.cell?, Array.getElem?_eq_none h2] at h

/-- a slice of bytes that the call owns, as a text -/
theorem conv_owned {P : Program} {w : World} {src e dst : TypeId} (hs : P.underlying src = some (.slice e)) (he : P.underlying e = some (.int .u8)) (hd : P.underlying dst = some .string)
    {base : Nat} {v : Value} {n : Nat} {ns : List Int} (h : w.ownsRow base e 1 v n (ns.map (Value.int .u8))) :
    Sem.run P (convert src dst v) w = .ok (.string (strOfNums ns)) w := by
  obtain ⟨hl, h⟩ := h
  rcases h with ⟨rfl, rfl⟩ | ⟨g, cap, cur, rfl, _, hg, hc, _, hz, ht⟩
  · have hn : ns = [] := by simpa using hl
    subst hn
    rw [run_convert_bytes_nil w src e hs he 0 0 dst hd]; rfl
  · have hln : ns.length = n := by simpa using hl
    refine run_convert_bytes_arg w src e hs he g 0 n cap ns hln ?_ dst hd
    intro i hi
    rw [Nat.zero_add]
    have h1 : cur.toList[i]? = some (.int .u8 (ns.getD i 0)) := by
      have h2 : (cur.toList.take (n * 1))[i]? = cur.toList[i]? := List.getElem?_take_of_lt (by omega)
      rw [← h2, ht]
      have h3 : i < ns.length := by omega
      simp [List.getD, h3]
    simpa [World.cell?, hg] using h1

/-- the first cells of a block are these bytes -/
def BytesAt (w : World) (b : Nat) (ns : List Int) : Prop := ∀ i, i < ns.length → w.cell? ⟨b, i, none⟩ = some (.int .u8 (ns.getD i 0))
theorem BytesAt.drew {w : World} {b : Nat} {ns : List Int} (h : BytesAt w b ns) : BytesAt w.drew b ns := h
theorem BytesAt.set {w : World} {b : Nat} {ns : List Int} (h : BytesAt w b ns) (i : Nat) (x : Int) : BytesAt (w.setCell ⟨b, i, none⟩ (.int .u8 x)) b (ns.set i x) := by
  intro k hk
  have hk' : k < ns.length := by simpa using hk
  by_cases e : k = i
  · subst e
    rw [World.cell?_setCell_same w _ _ (h k hk')]
    simp [List.getD, hk']
  · have hne : (⟨b, i, none⟩ : Addr) ≠ ⟨b, k, none⟩ := fun h2 => e (congrArg Addr.off h2).symm
    rw [World.cell?_setCell_other w _ _ _ hne, h k hk']
    simp [List.getD, Ne.symm e]
theorem BytesAt.conv {P : Program} {w : World} {src e dst : TypeId} (hs : P.underlying src = some (.slice e)) (he : P.underlying e = some (.int .u8)) (hd : P.underlying dst = some .string)
    {b : Nat} {ns : List Int} (h : BytesAt w b ns) (n cap : Nat) (hn : ns.length = n) : Sem.run P (convert src dst (.slice (some ⟨b, 0, none⟩) n cap)) w = .ok (.string (strOfNums ns)) w := by
  refine run_convert_bytes_arg w src e hs he b 0 n cap ns hn ?_ dst hd
  intro i hi
  rw [Nat.zero_add]
  exact h i (by omega)

/-- a text's bytes, as numbers -/
def nums (s : ByteArray) : List Int := s.data.toList.map fun b => (b.toNat : Int)
theorem nums_length (s : ByteArray) : (nums s).length = s.size := by simp [nums]
theorem nums_get (s : ByteArray) (i : Nat) (hi : i < s.size) : (nums s).getD i 0 = (s[i].toNat : Int) := by
  simp [nums, List.getD, hi]
  rfl
theorem strOfNums_nums (s : ByteArray) : strOfNums (nums s) = s := by
  unfold strOfNums nums
  rw [List.map_map]
  have e : ((fun n : Int => UInt8.ofNat n.toNat) ∘ fun b : UInt8 => (b.toNat : Int)) = id := by funext b; simp
  rw [e, List.map_id]

/-- a text's bytes in a block of the call's own: where they lie, what they are, that they may be written -/
theorem bytes_of {P : Program} {src dst e : TypeId} {u : TypeDesc} (hs : P.underlying src = some u) (hd : P.underlying dst = some (.slice e)) (he : P.underlying e = some (.int .u8)) (s : ByteArray) (w : World) : ∃ (cap : Nat) (W1 : World),
    Sem.run P (convert src dst (.string s)) w = .ok (.slice (some ⟨w.heap.size, 0, none⟩) s.size cap) W1 ∧ Below w.heap.size w W1 ∧
    BytesAt W1 w.heap.size (nums s) ∧ (∀ i, i < s.size → W1.frozen? ⟨w.heap.size, i, none⟩ = false) ∧ w.heap.size < W1.heap.size := by
  refine ⟨_, _, Lib.run_convert_string_bytes (P := P) w src dst e s hs hd he, ⟨rfl, rfl, rfl, by rw [Lib.bytesWorld_size]; omega, fun k hk => Lib.bytesWorld_at_old _ _ _ _ hk⟩, ?_, ?_, by rw [Lib.bytesWorld_size]; omega⟩
  · intro i hi
    rw [nums_length] at hi
    rw [Lib.bytesWorld_cell _ _ _ _ hi, nums_get _ _ hi]
    simp [List.getD, hi]; rfl
  · intro i hi
    have hz : s.size ≤ (Lib.bytesCells w e s).size := by
      unfold Lib.bytesCells; rw [Array.size_append, Array.size_map]; exact Nat.le_add_right _ _
    simp [World.frozen?, Lib.bytesWorld_at_new]
    omega

end Go.Proofs.YtjmoecfgpfdncaaDoor

/- What several layers share: a text's bytes, a row that the call owns and grew, the byte type's entry. -/
namespace Go.Proofs.YtjmoecfgpfdncaaDoor
open Go.RowKit

def bs (s : ByteArray) : List UInt8 := s.data.toList
theorem bs_length (s : ByteArray) : (bs s).length = s.size := by simp [bs]
theorem own_below {wr w1 : World} {B n : Nat} {v : Value} {xs : List Value} {E : TypeId} {o : Obj} (hown : wr.ownsRow B E 1 v n xs) (hB : B ≤ wr.heap.size) (hgrow : (wr.alloc o).grownBy w1 v.ownBlock) : Below B wr w1 := by
  refine Below.grown (row := v.ownBlock) ((Below.refl _ _).alloc hB _) hgrow (by simp; omega) ?_
  intro g hg
  exact hown.2.elim (fun h => by rw [h.1] at hg; simp [Value.ownBlock] at hg) (fun ⟨g', _, _, h, hge, _⟩ => by rw [h] at hg; simp [Value.ownBlock] at hg; omega)
theorem Tryd.infoU8 : (Tryd.prog.info? 5).map (fun i => (i.zero, i.size, i.bytes)) = some (some (.int .u8 0), 1, 1) := by kernel_rfl

end Go.Proofs.YtjmoecfgpfdncaaDoor

/- Plain arithmetic for layer 2: a text as one great number, a step of the division, and what is left of it. No Go in sight. -/
namespace Go.Proofs.YtjmoecfgpfdncaaDoor

/-- the polynomial, the highest power's bit the lowest -/
def polyN : Nat := 3988292384
theorem polyN_lt : polyN < 2 ^ 32 := by decide
theorem polyN_ge : 2 ^ 31 ≤ polyN := by decide
/-- one step: the lowest bit is taken away -/
def s0 (x : Nat) : Nat := x / 2 ^^^ (if x % 2 = 1 then polyN else 0)
def sN : Nat → Nat → Nat
  | 0, x => x
  | n + 1, x => sN n (s0 x)
theorem sN_add (m : Nat) : ∀ n x, sN (n + m) x = sN m (sN n x) := by
  intro n
  induction n with
  | zero => intro x; rw [Nat.zero_add]; rfl
  | succ n ih => intro x; rw [show n + 1 + m = (n + m) + 1 by omega]; exact ih (s0 x)
theorem sN_succ (n x : Nat) : sN (n + 1) x = s0 (sN n x) := sN_add 1 n x
theorem xor_half (a b : Nat) : (a ^^^ b) / 2 = a / 2 ^^^ b / 2 := by
  apply Nat.eq_of_testBit_eq; intro i
  rw [Nat.testBit_xor, Nat.testBit_div_two, Nat.testBit_div_two, Nat.testBit_div_two, Nat.testBit_xor]
theorem xor_odd (a b : Nat) : (a ^^^ b) % 2 = (a % 2 + b % 2) % 2 := by
  have h := Nat.testBit_xor a b 0
  simp only [Nat.testBit_zero] at h
  have h1 : a % 2 = 0 ∨ a % 2 = 1 := by omega
  have h2 : b % 2 = 0 ∨ b % 2 = 1 := by omega
  have h3 : (a ^^^ b) % 2 = 0 ∨ (a ^^^ b) % 2 = 1 := by omega
  rcases h1 with h1 | h1 <;> rcases h2 with h2 | h2 <;> rcases h3 with h3 | h3 <;> simp [h1, h2, h3] at h ⊢
theorem s0_xor (a b : Nat) : s0 (a ^^^ b) = s0 a ^^^ s0 b := by
  unfold s0
  rw [xor_half, xor_odd]
  have h1 : a % 2 = 0 ∨ a % 2 = 1 := by omega
  have h2 : b % 2 = 0 ∨ b % 2 = 1 := by omega
  rcases h1 with h1 | h1 <;> rcases h2 with h2 | h2
  · simp [h1, h2]
  · simp [h1, h2, Nat.xor_assoc]
  · simp [h1, h2]
    rw [Nat.xor_assoc, Nat.xor_assoc, Nat.xor_comm (b / 2)]
  · simp [h1, h2]
    rw [Nat.xor_assoc, Nat.xor_comm polyN, Nat.xor_assoc, Nat.xor_self, Nat.xor_zero]
theorem sN_xor (n : Nat) : ∀ a b, sN n (a ^^^ b) = sN n a ^^^ sN n b := by
  induction n with
  | zero => intro a b; rfl
  | succ n ih => intro a b; show sN n (s0 (a ^^^ b)) = sN n (s0 a) ^^^ sN n (s0 b); rw [s0_xor, ih]
theorem s0_two (x : Nat) : s0 (2 * x) = x := by
  unfold s0
  rw [show 2 * x % 2 = 0 by omega, show 2 * x / 2 = x by omega]; simp
theorem sN_shift (n : Nat) : ∀ x, sN n (2 ^ n * x) = x := by
  induction n with
  | zero => intro x; simp [sN]
  | succ n ih => intro x; show sN n (s0 (2 ^ (n + 1) * x)) = x; rw [Nat.pow_succ, Nat.mul_comm (2 ^ n) 2, Nat.mul_assoc, s0_two, ih]
theorem s0_lt (x : Nat) (h : x < 2 ^ 32) : s0 x < 2 ^ 32 := by
  unfold s0
  refine Nat.xor_lt_two_pow (by omega) ?_
  split
  · exact polyN_lt
  · decide
theorem sN_lt (n : Nat) : ∀ x, x < 2 ^ 32 → sN n x < 2 ^ 32 := by
  induction n with
  | zero => intro x h; exact h
  | succ n ih => intro x h; exact ih _ (s0_lt x h)
theorem s0_zero : s0 0 = 0 := by decide
theorem s0_eq_zero (x : Nat) (h : x < 2 ^ 32) (h0 : s0 x = 0) : x = 0 := by
  unfold s0 at h0
  by_cases h1 : x % 2 = 1
  · rw [if_pos h1] at h0
    have h2 : x / 2 = polyN := by
      have := congrArg (· ^^^ polyN) h0
      simpa [Nat.xor_assoc] using this
    have := polyN_ge
    omega
  · rw [if_neg h1] at h0
    simp at h0; omega
theorem sN_eq_zero (n : Nat) : ∀ x, x < 2 ^ 32 → sN n x = 0 → x = 0 := by
  induction n with
  | zero => intro x _ h; exact h
  | succ n ih => intro x h h0; exact s0_eq_zero x h (ih _ (s0_lt x h) h0)
theorem sN_inj (n a b : Nat) (ha : a < 2 ^ 32) (hb : b < 2 ^ 32) (h : sN n a = sN n b) : a = b := by
  have h1 : sN n (a ^^^ b) = 0 := by rw [sN_xor, h, Nat.xor_self]
  have h2 := sN_eq_zero n _ (Nat.xor_lt_two_pow ha hb) h1
  have := congrArg (· ^^^ b) h2
  simpa [Nat.xor_assoc] using this

/-- a text as one number, its first byte the lowest -/
def numN : List UInt8 → Nat
  | [] => 0
  | b :: l => b.toNat + 256 * numN l
theorem numN_lt : ∀ l : List UInt8, numN l < 2 ^ (8 * l.length)
  | [] => by simp [numN]
  | b :: l => by
    have h := numN_lt l
    have hb : b.toNat < 256 := b.toNat_lt
    rw [List.length_cons, show 8 * (l.length + 1) = 8 + 8 * l.length by omega, Nat.pow_add, show 2 ^ 8 = 256 from rfl]
    simp only [numN]; omega
theorem add_xor (a b n : Nat) (h : a < 2 ^ n) : a + 2 ^ n * b = a ^^^ 2 ^ n * b := by
  have h1 := Nat.shiftLeft_add_eq_or_of_lt h b
  rw [Nat.shiftLeft_eq, Nat.mul_comm] at h1
  rw [Nat.add_comm, h1]
  apply Nat.eq_of_testBit_eq; intro i
  rw [Nat.testBit_or, Nat.testBit_xor]
  by_cases hi : i < n
  · have h2 : (2 ^ n * b).testBit i = false := by rw [Nat.testBit_two_pow_mul]; simp; omega
    rw [h2]; simp
  · have h2 : a.testBit i = false := Nat.testBit_lt_two_pow (Nat.lt_of_lt_of_le h (Nat.pow_le_pow_right (by decide) (by omega)))
    rw [h2]; simp
theorem numN_append : ∀ a b : List UInt8, numN (a ++ b) = numN a + 2 ^ (8 * a.length) * numN b
  | [], b => by simp [numN]
  | c :: a, b => by
    have h := numN_append a b
    rw [List.length_cons, show 8 * (a.length + 1) = 8 + 8 * a.length by omega, Nat.pow_add, show 2 ^ 8 = 256 from rfl, Nat.mul_assoc]
    simp only [List.cons_append, numN, h]; omega
theorem numN_inj : ∀ a b : List UInt8, a.length = b.length → numN a = numN b → a = b
  | [], [], _, _ => rfl
  | c :: a, d :: b, hl, h => by
    have hc : c.toNat < 256 := c.toNat_lt
    have hd : d.toNat < 256 := d.toNat_lt
    simp only [numN] at h
    have h1 : c.toNat = d.toNat := by omega
    have h2 : numN a = numN b := by omega
    rw [UInt8.toNat_inj.1 h1, numN_inj a b (by simpa using hl) h2]

/-- the state behind a text -/
def more (st : Nat) (l : List UInt8) : Nat := sN (8 * l.length) (st ^^^ numN l)
theorem more_lt (st : Nat) (l : List UInt8) (h : st < 2 ^ 32) : more st l < 2 ^ 32 := by
  induction l generalizing st with
  | nil => simpa [more, sN, numN] using h
  | cons b l ih =>
    have hb : b.toNat < 256 := b.toNat_lt
    have e : more st (b :: l) = more (sN 8 (st ^^^ b.toNat)) l := by
      unfold more
      rw [List.length_cons, show 8 * (l.length + 1) = 8 + 8 * l.length by omega, sN_add]
      congr 1
      simp only [numN]
      rw [show b.toNat + 256 * numN l = b.toNat ^^^ 2 ^ 8 * numN l from add_xor b.toNat (numN l) 8 hb, ← Nat.xor_assoc, sN_xor, sN_shift]
    rw [e]
    exact ih _ (sN_lt _ _ (Nat.xor_lt_two_pow h (by omega)))
theorem more_cons (st : Nat) (b : UInt8) (l : List UInt8) : more st (b :: l) = more (sN 8 (st ^^^ b.toNat)) l := by
  have hb : b.toNat < 256 := b.toNat_lt
  unfold more
  rw [List.length_cons, show 8 * (l.length + 1) = 8 + 8 * l.length by omega, sN_add]
  congr 1
  simp only [numN]
  rw [show b.toNat + 256 * numN l = b.toNat ^^^ 2 ^ 8 * numN l from add_xor b.toNat (numN l) 8 hb, ← Nat.xor_assoc, sN_xor, sN_shift]
theorem more_nil (st : Nat) : more st [] = st := by simp [more, sN, numN]
theorem more_append (st : Nat) (a b : List UInt8) : more st (a ++ b) = more (more st a) b := by
  unfold more
  rw [List.length_append, show 8 * (a.length + b.length) = 8 * a.length + 8 * b.length by omega, sN_add, numN_append, add_xor _ _ _ (numN_lt a), ← Nat.xor_assoc, sN_xor, sN_shift]
theorem more_snoc (st : Nat) (a : List UInt8) (b : UInt8) : more st (a ++ [b]) = sN 8 (more st a ^^^ b.toNat) := by
  rw [more_append, more_cons, more_nil]

/-- all bits of 32 turned -/
def ones32 : Nat := 4294967295
theorem compl_xor (x : Nat) (h : x < 2 ^ 32) : ones32 - x = x ^^^ ones32 := by
  apply Nat.eq_of_testBit_eq; intro i
  have h1 : ones32 - x = 2 ^ 32 - (x + 1) := by unfold ones32; omega
  rw [h1, Nat.testBit_two_pow_sub_succ h, Nat.testBit_xor, show ones32 = 2 ^ 32 - 1 from rfl, Nat.testBit_two_pow_sub_one]
  by_cases hi : i < 32
  · simp [hi]
  · have : x.testBit i = false := Nat.testBit_lt_two_pow (Nat.lt_of_lt_of_le h (Nat.pow_le_pow_right (by decide) (by omega)))
    simp [hi, this]
def sumN (l : List UInt8) : Nat := more ones32 l ^^^ ones32
/-- four bytes of a number -/
def tail4 (n : Nat) : List UInt8 := [UInt8.ofNat (n % 256), UInt8.ofNat (n / 256 % 256), UInt8.ofNat (n / 65536 % 256), UInt8.ofNat (n / 16777216 % 256)]
theorem numN_tail4 (n : Nat) (h : n < 2 ^ 32) : numN (tail4 n) = n := by
  simp only [tail4, numN, UInt8.toNat_ofNat']
  omega
def sealN (l : List UInt8) : List UInt8 := l ++ tail4 (sumN l)
theorem sumN_lt (l : List UInt8) : sumN l < 2 ^ 32 := Nat.xor_lt_two_pow (more_lt _ _ (by decide)) (by decide)
/-- what every sealed text comes to -/
def good : Nat := sN 32 ones32
theorem more_four (st : Nat) (t : List UInt8) (ht : t.length = 4) : more st t = sN 32 (st ^^^ numN t) := by unfold more; rw [ht]
theorem more_seal (l : List UInt8) : more ones32 (sealN l) = good := by
  unfold sealN
  rw [more_append, more_four _ _ rfl, numN_tail4 _ (sumN_lt l)]
  unfold sumN good
  rw [← Nat.xor_assoc, Nat.xor_self, Nat.zero_xor]
theorem whole_iff (l : List UInt8) (h : 4 ≤ l.length) : sealN (l.take (l.length - 4)) = l ↔ more ones32 l = good := by
  constructor
  · intro h2; rw [← h2]; exact more_seal _
  · intro h2
    have e : l = l.take (l.length - 4) ++ l.drop (l.length - 4) := (List.take_append_drop _ _).symm
    have hd : (l.drop (l.length - 4)).length = 4 := by rw [List.length_drop]; omega
    have h3 : more ones32 l = sN 32 (more ones32 (l.take (l.length - 4)) ^^^ numN (l.drop (l.length - 4))) := by
      conv => lhs; rw [e]
      rw [more_append, more_four _ _ hd]
    rw [h3] at h2
    have hn : numN (l.drop (l.length - 4)) < 2 ^ 32 := by have := numN_lt (l.drop (l.length - 4)); rwa [hd] at this
    have hm := more_lt ones32 (l.take (l.length - 4)) (by decide)
    have h4 := sN_inj 32 _ _ (Nat.xor_lt_two_pow hm hn) (by decide) h2
    have h5 : numN (l.drop (l.length - 4)) = sumN (l.take (l.length - 4)) := by
      have h6 := congrArg (more ones32 (l.take (l.length - 4)) ^^^ ·) h4
      simp only [← Nat.xor_assoc, Nat.xor_self, Nat.zero_xor] at h6
      exact h6
    unfold sealN
    conv => rhs; rw [e]
    congr 1
    exact numN_inj _ _ (by rw [hd]; rfl) (by rw [numN_tail4 _ (sumN_lt _), h5])

/-! three texts put together -/
theorem more_three (a b c l : List UInt8) (st : Nat) (hb : a.length = b.length) (hc : a.length = c.length) (hl : a.length = l.length) (h : numN l = numN a ^^^ numN b ^^^ numN c) :
    more st l = more st a ^^^ more st b ^^^ more st c := by
  unfold more
  rw [← hb, ← hc, ← hl, ← sN_xor, ← sN_xor, h]
  congr 1
  have e : ∀ x y z : Nat, st ^^^ x ^^^ (st ^^^ y) ^^^ (st ^^^ z) = st ^^^ (x ^^^ y ^^^ z) := by
    intro x y z
    apply Nat.eq_of_testBit_eq; intro i
    simp only [Nat.testBit_xor]
    cases st.testBit i <;> cases x.testBit i <;> cases y.testBit i <;> cases z.testBit i <;> rfl
  exact (e _ _ _).symm

/-! bits that lie next to one another -/
theorem more_burst (l m : List UInt8) (st at_ bits : Nat) (hl : l.length = m.length) (hb : bits < 2 ^ 32) (hb0 : bits ≠ 0) (ha : at_ ≤ 8 * l.length) (h : numN m = numN l ^^^ 2 ^ at_ * bits) :
    more st l ≠ more st m := by
  intro he
  have h1 : more st m = more st l ^^^ sN (8 * l.length) (2 ^ at_ * bits) := by
    unfold more; rw [← hl, h, ← Nat.xor_assoc, sN_xor]
  rw [h1] at he
  have h2 : sN (8 * l.length) (2 ^ at_ * bits) = 0 := by
    have := congrArg (more st l ^^^ ·) he
    simpa [← Nat.xor_assoc] using this.symm
  rw [show 8 * l.length = at_ + (8 * l.length - at_) by omega, sN_add, sN_shift] at h2
  exact hb0 (sN_eq_zero _ _ hb h2)

/-! half a byte at a time -/
def half (i : Nat) : Nat := sN 4 i
theorem sN_half (x : Nat) : sN 4 x = x / 16 ^^^ half (x % 16) := by
  have e : x = x % 16 ^^^ 2 ^ 4 * (x / 16) := by
    rw [← add_xor _ _ _ (by omega : x % 16 < 2 ^ 4)]; omega
  conv => lhs; rw [e]
  rw [sN_xor, sN_shift, Nat.xor_comm]; rfl

end Go.Proofs.YtjmoecfgpfdncaaDoor

/- The reference of layer 2, walked: its lists of bits as the bits of one number. -/
namespace Go.Proofs.YtjmoecfgpfdncaaDoor
open Go.RowKit

/-- the first N cells of a block, from a place on, are the bits of a number -/
def BitsAt (w : World) (g off N M : Nat) : Prop := ∀ i, i < N → w.cell? ⟨g, off + i, none⟩ = some (.bool (M.testBit i))
theorem BitsAt.drew {w : World} {g off N M : Nat} (h : BitsAt w g off N M) : BitsAt w.drew g off N M := h
theorem BitsAt.below {w w' : World} {B g off N M : Nat} (h : BitsAt w g off N M) (hb : Below B w w') (hg : g < B) : BitsAt w' g off N M := by
  intro i hi
  rw [hb.cell (p := ⟨g, off + i, none⟩) hg]; exact h i hi
theorem BitsAt.set {w : World} {g N M M' : Nat} (h : BitsAt w g 0 N M) (j : Nat) (b : Bool) (hj : M'.testBit j = b) (ho : ∀ i, i ≠ j → M'.testBit i = M.testBit i) :
    BitsAt (w.setCell ⟨g, j, none⟩ (.bool b)) g 0 N M' := by
  intro i hi
  have h1 := h i hi
  rw [Nat.zero_add] at *
  by_cases e : i = j
  · subst e
    rw [World.cell?_setCell_same w _ _ h1, hj]
  · have hne : (⟨g, j, none⟩ : Addr) ≠ ⟨g, i, none⟩ := fun h2 => e (congrArg Addr.off h2).symm
    rw [World.cell?_setCell_other w _ _ _ hne, h1, ho i e]

/-- the k lowest bits of a number, as cells -/
def bl (M : Nat) : Nat → List Value
  | 0 => []
  | k + 1 => bl M k ++ [.bool (M.testBit k)]
theorem bl_length (M k : Nat) : (bl M k).length = k := by
  induction k with
  | zero => rfl
  | succ k ih => simp [bl, ih]
theorem bl_get (M : Nat) : ∀ k i, i < k → (bl M k)[i]? = some (.bool (M.testBit i)) := by
  intro k
  induction k with
  | zero => intro i h; omega
  | succ k ih =>
    intro i h
    simp only [bl]
    by_cases e : i < k
    · rw [List.getElem?_append_left (by rw [bl_length]; exact e)]; exact ih i e
    · obtain rfl : i = k := by omega
      rw [List.getElem?_append_right (by rw [bl_length]; omega), bl_length]; simp
theorem owned_bits {w : World} {B E : Nat} {v : Value} {k M : Nat} (h : w.ownsRow B E 1 v k (bl M k)) :
    (v = .slice none 0 0 ∧ k = 0) ∨ ∃ g cap, v = .slice (some ⟨g, 0, none⟩) k cap ∧ B ≤ g ∧ g < w.heap.size ∧ BitsAt w g 0 k M := by
  obtain ⟨_, h⟩ := h
  rcases h with ⟨h1, h2⟩ | ⟨g, cap, cur, h1, h2, h3, h4, _, h5, h6⟩
  · exact Or.inl ⟨h1, h2⟩
  · refine Or.inr ⟨g, cap, h1, h2, ?_, ?_⟩
    · rcases Nat.lt_or_ge g w.heap.size with h | h
      · exact h
      · rw [Array.getElem?_eq_none h] at h3; cases h3
    · intro i hi
      rw [Nat.zero_add]
      have h7 : cur.toList[i]? = some (.bool (M.testBit i)) := by
        have h8 : (cur.toList.take (k * 1))[i]? = cur.toList[i]? := List.getElem?_take_of_lt (by omega)
        rw [← h8, h6]; exact bl_get M k i hi
      simpa [World.cell?, h3] using h7

theorem Tryd.infoBool : (Tryd.prog.info? 4).map (fun i => (i.zero, i.size, i.bytes)) = some (some (.bool false), 1, 1) := by kernel_rfl

def polyL : List Bool := [false, false, false, false, false, true, false, false, true, true, false, false, false, false, false, true, false, false, false, true, true, true, false, true, true, false, true, true, false, true, true, true]
theorem polyL_get : ∀ i, i < 32 → polyL[i]? = some (polyN.testBit i) := by decide
theorem poly_bits (w : World) (o : Obj) : BitsAt ((w.alloc (.cells #[.bool false, .bool false, .bool false, .bool false, .bool false, .bool true, .bool false, .bool false, .bool true, .bool true, .bool false, .bool false, .bool false, .bool false, .bool false, .bool true, .bool false, .bool false, .bool false, .bool true, .bool true, .bool true, .bool false, .bool true, .bool true, .bool false, .bool true, .bool true, .bool false, .bool true, .bool true, .bool true] 4)).alloc o) w.heap.size 0 32 polyN := by
  intro i hi
  rw [Nat.zero_add, World.cell?_alloc2_first]
  show ((polyL.map Value.bool).toArray)[i]? = _
  rw [List.getElem?_toArray, List.getElem?_map, polyL_get i hi]; rfl

/-! Poly: all numbers known -/
/-! Of: the bits of a number -/
theorem bit_is (N k x : Nat) (h : N / 2 ^ k = x) : ((x : Int) % 2 == 1) = N.testBit k := by
  rw [Nat.testBit_eq_decide_div_mod_eq, h, Bool.eq_iff_iff]; simp; omega
def OfPost (N B : Nat) (w : World) (e : Ending) (w' : World) : Prop := ∃ v, e = .returned v ∧ w'.ownsRow B 4 1 v 32 (bl N 32) ∧ Below B w w'
theorem rel_bits {w wr w1 : World} {B N k : Nat} {v' : Value} {b : Bool} (ho : w1.ownsRow B 4 1 v' (k + 1) (bl N k ++ [.bool b])) (hv : b = N.testBit k) (hb : Below B w wr) (hg : Below B wr w1) :
    w1.ownsRow B 4 1 v' (k + 1) (bl N (k + 1)) ∧ Below B w w1 := by
  subst hv; exact ⟨ho, hb.trans hg⟩
/-! Bits: the bits of a text -/
theorem numN_testBit : ∀ (l : List UInt8) (k j : Nat) (c : UInt8), l[k]? = some c → j < 8 → (numN l).testBit (8 * k + j) = c.toNat.testBit j
  | [], k, j, c, h, _ => by simp at h
  | b :: l, 0, j, c, h, hj => by
    simp at h; subst h
    have hb : b.toNat < 2 ^ 8 := b.toNat_lt
    rw [show numN (b :: l) = 2 ^ 8 * numN l + b.toNat by simp only [numN]; omega, Nat.testBit_two_pow_mul_add _ hb, if_pos (by omega), show 8 * 0 + j = j by omega]
  | b :: l, k + 1, j, c, h, hj => by
    have hb : b.toNat < 2 ^ 8 := b.toNat_lt
    rw [show numN (b :: l) = 2 ^ 8 * numN l + b.toNat by simp only [numN]; omega, Nat.testBit_two_pow_mul_add _ hb, if_neg (by omega), show 8 * (k + 1) + j - 8 = 8 * k + j by omega]
    exact numN_testBit l k j c (by simpa using h) hj
theorem str_testBit (s : ByteArray) (k j : Nat) (hk : k < s.size) (hj : j < 8) : (numN s.data.toList).testBit (8 * k + j) = s[k].toNat.testBit j :=
  numN_testBit _ k j _ (by simp [hk]; rfl) hj
def BitsPost (M n B : Nat) (w : World) (e : Ending) (w' : World) : Prop := ∃ v, e = .returned v ∧ w'.ownsRow B 4 1 v n (bl M n) ∧ Below B w w'

end Go.Proofs.YtjmoecfgpfdncaaDoor

/- The reference's Number and Left: a list of bits as a number; what is left of a polynomial. -/
namespace Go.Proofs.YtjmoecfgpfdncaaDoor
open Go.RowKit

theorem mod_succ (M k : Nat) : M % 2 ^ (k + 1) = M % 2 ^ k + 2 ^ k * (if M.testBit k then 1 else 0) := by
  rw [Nat.mod_pow_succ, Nat.testBit_eq_decide_div_mod_eq]
  have h : M / 2 ^ k % 2 = 0 ∨ M / 2 ^ k % 2 = 1 := by omega
  rcases h with h | h <;> simp [h]
/-- the k-th power of two, as it is kept in 32 bits -/
def pw (k : Nat) : Nat := 2 ^ k % 4294967296
theorem pw_lt (k : Nat) (h : k < 32) : pw k = 2 ^ k := Nat.mod_eq_of_lt (Nat.lt_of_lt_of_le (Nat.pow_lt_pow_right (by decide) h) (by decide))
theorem pw_bd (k : Nat) : pw k < 4294967296 := Nat.mod_lt _ (by decide)
theorem pw_succ (k : Nat) : ((pw k : Nat) : Int) * 2 % 4294967296 = ((pw (k + 1) : Nat) : Int) := by
  unfold pw; rw [Nat.pow_succ]; omega

/-! Left -/
theorem mod_bit (M k i : Nat) : (M % 2 ^ k).testBit i = (decide (i < k) && M.testBit i) := Nat.testBit_mod_two_pow _ _ _
theorem copy_at (L k : Nat) : (L % 2 ^ (k + 1)).testBit k = L.testBit k := by rw [mod_bit]; simp
theorem copy_off (L k i : Nat) (h : i ≠ k) : (L % 2 ^ (k + 1)).testBit i = (L % 2 ^ k).testBit i := by
  rw [mod_bit, mod_bit]; congr 1; rw [decide_eq_decide]; omega
theorem fold_at (L F k : Nat) : (L ^^^ F % 2 ^ (k + 1)).testBit k = ((L ^^^ F % 2 ^ k).testBit k != F.testBit k) := by
  rw [Nat.testBit_xor, Nat.testBit_xor, mod_bit, mod_bit]; simp
theorem fold_off (L F k i : Nat) (h : i ≠ k) : (L ^^^ F % 2 ^ (k + 1)).testBit i = (L ^^^ F % 2 ^ k).testBit i := by
  rw [Nat.testBit_xor, Nat.testBit_xor, copy_off _ _ _ h]
theorem step_bit (M P m k i : Nat) : (M ^^^ 2 ^ (m + 1) * (P % 2 ^ k)).testBit i = (M.testBit i != (decide (m + 1 ≤ i) && (decide (i - (m + 1) < k) && P.testBit (i - (m + 1))))) := by
  rw [Nat.testBit_xor, Nat.testBit_two_pow_mul, mod_bit]
theorem step_at (M P m k : Nat) : (M ^^^ 2 ^ (m + 1) * (P % 2 ^ (k + 1))).testBit (m + 1 + k) = ((M ^^^ 2 ^ (m + 1) * (P % 2 ^ k)).testBit (m + 1 + k) != P.testBit k) := by
  rw [step_bit, step_bit, show m + 1 + k - (m + 1) = k by omega]; simp
theorem step_off (M P m k i : Nat) (h : i ≠ m + 1 + k) : (M ^^^ 2 ^ (m + 1) * (P % 2 ^ (k + 1))).testBit i = (M ^^^ 2 ^ (m + 1) * (P % 2 ^ k)).testBit i := by
  rw [step_bit, step_bit]
  by_cases h1 : m + 1 ≤ i
  · rw [show decide (i - (m + 1) < k + 1) = decide (i - (m + 1) < k) by rw [decide_eq_decide]; omega]
  · simp [h1]
/-- the list of bits after so many steps of the division -/
def divM (M : Nat) : Nat → Nat
  | 0 => M
  | m + 1 => divM M m ^^^ 2 ^ (m + 1) * (if (divM M m).testBit m then polyN else 0)
theorem div_xor (a b k : Nat) : (a ^^^ 2 ^ k * b) / 2 ^ k = a / 2 ^ k ^^^ b := by
  apply Nat.eq_of_testBit_eq; intro i
  rw [Nat.testBit_div_two_pow, Nat.testBit_xor, Nat.testBit_xor, Nat.testBit_div_two_pow, Nat.testBit_two_pow_mul]
  simp
theorem divM_sN (M : Nat) : ∀ m, divM M m / 2 ^ m = sN m M := by
  intro m
  induction m with
  | zero => simp [divM, sN]
  | succ m ih =>
    rw [sN_succ, ← ih]
    show (divM M m ^^^ 2 ^ (m + 1) * (if (divM M m).testBit m then polyN else 0)) / 2 ^ (m + 1) = _
    rw [div_xor, Nat.pow_succ, ← Nat.div_div_eq_div_mul]
    unfold s0
    congr 1
    rw [Nat.testBit_eq_decide_div_mod_eq]
    by_cases h : divM M m / 2 ^ m % 2 = 1 <;> simp [h]
theorem divM_bit (M m i : Nat) : (divM M m).testBit (m + i) = (sN m M).testBit i := by
  rw [← divM_sN, Nat.testBit_div_two_pow, Nat.add_comm]

/-- a list of bits of the call's own: block G holds the bits of M, N of them, and may be written; nothing below G has turned -/
def OwnM (w wr : World) (G N M : Nat) : Prop := BitsAt wr G 0 N M ∧ Below G w wr ∧ (∀ i, wr.frozen? ⟨G, i, none⟩ = false) ∧ G < wr.heap.size
theorem OwnM.drew {w wr : World} {G N M : Nat} (h : OwnM w wr G N M) : OwnM w wr.drew G N M := ⟨h.1, h.2.1.drew, h.2.2.1, h.2.2.2⟩
theorem OwnM.set {w wr : World} {G N M M' : Nat} (h : OwnM w wr G N M) (j : Nat) (b : Bool) (hj : M'.testBit j = b) (ho : ∀ i, i ≠ j → M'.testBit i = M.testBit i) :
    OwnM w (wr.setCell ⟨G, j, none⟩ (.bool b)) G N M' := by
  refine ⟨h.1.set j b hj ho, h.2.1.setCell (Nat.le_refl _) _, fun i => ?_, by simpa [World.setCell] using h.2.2.2⟩
  rw [World.frozen?_setCell]; exact h.2.2.1 i
theorem OwnM.cell {w wr : World} {G N M : Nat} (h : OwnM w wr G N M) (i : Nat) (hi : i < N) : wr.cell? ⟨G, i, none⟩ = some (.bool (M.testBit i)) := by
  have := h.1 i hi; rwa [Nat.zero_add] at this
theorem OwnM.made (w : World) (N : Nat) (E : TypeId) : OwnM w (w.alloc (.cells (madeCells #[.bool false] N) E)) w.heap.size N 0 := by
  refine ⟨?_, (Below.refl _ _).alloc (Nat.le_refl _) _, fun i => World.frozen?_alloc_new _ _ _ _, by simp⟩
  intro i hi
  rw [Nat.zero_add, World.cell?_alloc_new, Nat.zero_testBit]
  simp [madeCells, hi, Nat.mod_one]

theorem OwnM.later {w wp w1 : World} {G N M : Nat} (h : OwnM w wp G N M) (hb : Below wp.heap.size wp w1) : OwnM w w1 G N M :=
  ⟨h.1.below hb h.2.2.2, h.2.1.trans (hb.mono (Nat.le_of_lt h.2.2.2)), fun i => by rw [hb.frozen (p := ⟨G, i, none⟩) h.2.2.2]; exact h.2.2.1 i, Nat.lt_of_lt_of_le h.2.2.2 hb.size⟩
theorem BitsAt.other {w : World} {g off N M : Nat} (h : BitsAt w g off N M) {G : Nat} (hg : G ≠ g) (j : Nat) (v : Value) : BitsAt (w.setCell ⟨G, j, none⟩ v) g off N M := by
  intro i hi
  have hne : (⟨G, j, none⟩ : Addr) ≠ ⟨g, off + i, none⟩ := fun h2 => hg (congrArg Addr.block h2)
  rw [World.cell?_setCell_other w _ _ _ hne]; exact h i hi
theorem divM_no (M m : Nat) (h : (divM M m).testBit m = false) : divM M (m + 1) = divM M m := by
  show divM M m ^^^ 2 ^ (m + 1) * (if (divM M m).testBit m then polyN else 0) = _
  rw [h]; simp
theorem divM_yes (M m : Nat) (h : (divM M m).testBit m = true) : divM M (m + 1) = divM M m ^^^ 2 ^ (m + 1) * polyN := by
  show divM M m ^^^ 2 ^ (m + 1) * (if (divM M m).testBit m then polyN else 0) = _
  rw [h, if_pos rfl]
theorem left_bits {w wr : World} {G k M : Nat} (h : OwnM w wr G (k + 32) (divM M k)) : BitsAt wr G k 32 (sN k M) := by
  intro i hi
  have := h.cell (k + i) (by omega)
  rwa [divM_bit] at this

def LeftPost (n X B : Nat) (w : World) (e : Ending) (w' : World) : Prop := ∃ g cap, e = .returned (.slice (some ⟨g, n, none⟩) 32 cap) ∧ BitsAt w' g n 32 X ∧ Below B w w'

end Go.Proofs.YtjmoecfgpfdncaaDoor

/- The reference's More, Sum, Tail, Seal and Whole. -/
namespace Go.Proofs.YtjmoecfgpfdncaaDoor
open Go.RowKit

/-- a text's bytes -/

theorem left_of {M n B : Nat} {v : Value} {w w1 : World} (ho : w.ownsRow B 4 1 v n (bl M n)) (hb : Below w.heap.size w w1) :
    ∃ a ca, v = .slice a n ca ∧ ∀ i, i < n → ∃ b, a = some ⟨b, 0, none⟩ ∧ b < w1.heap.size ∧ BitsAt w1 b 0 n M := by
  rcases owned_bits ho with ⟨rfl, rfl⟩ | ⟨g, cap, rfl, _, hg, hbits⟩
  · exact ⟨none, 0, rfl, fun i hi => by omega⟩
  · exact ⟨_, cap, rfl, fun i _ => ⟨g, rfl, Nat.lt_of_lt_of_le hg hb.size, hbits.below hb hg⟩⟩

def MoreR (X : Int) (w : World) (e : Ending) (w' : World) : Prop := e = .returned (.int .u32 X) ∧ Below w.heap.size w w'

theorem sumN_sub (l : List UInt8) : (4294967295 : Int) - (more ones32 l : Nat) = (sumN l : Nat) := by
  have h := more_lt ones32 l (by decide)
  have h2 := compl_xor _ h
  unfold sumN
  rw [← h2]; unfold ones32 at *; omega
/-- the k lowest bytes of a number, as numbers -/
def tlI (N : Nat) : Nat → List Int
  | 0 => []
  | k + 1 => tlI N k ++ [((N / 256 ^ k % 256 : Nat) : Int)]
theorem tlI_four (N : Nat) : strOfNums (tlI N 4) = ⟨(tail4 N).toArray⟩ := by
  apply strOfNums_eq
  show [UInt8.ofNat (((N / 256 ^ 0 % 256 : Nat) : Int)).toNat, UInt8.ofNat (((N / 256 ^ 1 % 256 : Nat) : Int)).toNat, UInt8.ofNat (((N / 256 ^ 2 % 256 : Nat) : Int)).toNat, UInt8.ofNat (((N / 256 ^ 3 % 256 : Nat) : Int)).toNat] = tail4 N
  simp only [Int.toNat_natCast]
  rw [Nat.pow_zero, Nat.div_one]; rfl
theorem rel_tail {w wr w1 : World} {B N k : Nat} {v' : Value} {x : Int} (ho : w1.ownsRow B 5 1 v' (k + 1) ((tlI N k).map (Value.int .u8) ++ [.int .u8 x])) (hv : x = ((N / 256 ^ k % 256 : Nat) : Int)) (hb : Below B w wr) (hg : Below B wr w1) :
    w1.ownsRow B 5 1 v' (k + 1) ((tlI N (k + 1)).map (Value.int .u8)) ∧ Below B w w1 := by
  subst hv; exact ⟨by simpa [tlI] using ho, hb.trans hg⟩

/-- a text, sealed -/
def sealS (s : ByteArray) : ByteArray := ⟨(sealN (bs s)).toArray⟩
theorem bs_sealS (s : ByteArray) : bs (sealS s) = sealN (bs s) := rfl
theorem seal_cat (s : ByteArray) : s ++ (⟨(tail4 (sumN (bs s))).toArray⟩ : ByteArray) = sealS s := by
  cases s with
  | mk d =>
    rw [ByteArray.mk_append_mk]
    unfold sealS sealN bs
    congr 1
theorem tail_str (N : Nat) : ∃ t : ByteArray, (⟨(tail4 N).toArray⟩ : ByteArray) = t ∧ t.size ≤ 4 := ⟨_, rfl, by show (tail4 N).toArray.size ≤ 4; simp [tail4]⟩

/-- is it sealed? -/
def wholeB (s : ByteArray) : Bool := decide (4 ≤ s.size) && ((sealS (s.extract 0 (s.size - 4))).toList == s.toList)
theorem whole_short (s : ByteArray) (h : ¬ 4 ≤ s.size) : wholeB s = false := by unfold wholeB; rw [decide_eq_false h]; rfl
theorem whole_long (s : ByteArray) (h : 4 ≤ s.size) : wholeB s = ((sealS (s.extract 0 (s.size - 4))).toList == s.toList) := by unfold wholeB; rw [decide_eq_true h]; rfl
theorem bs_extract (s : ByteArray) (n : Nat) : bs (s.extract 0 n) = (bs s).take n := by
  unfold bs; rw [ByteArray.data_extract]; simp
theorem wholeB_iff (s : ByteArray) : wholeB s = true ↔ 4 ≤ s.size ∧ more ones32 (bs s) = good := by
  by_cases h : 4 ≤ s.size
  · rw [whole_long s h, beq_iff_eq, ByteArray.toList_eq, ByteArray.toList_eq]
    have h2 := whole_iff (bs s) (by rw [bs_length]; exact h)
    rw [bs_length] at h2
    rw [show (sealS (s.extract 0 (s.size - 4))).data.toList = sealN (bs (s.extract 0 (s.size - 4))) from rfl, bs_extract, show s.data.toList = bs s from rfl, h2]
    exact ⟨fun h3 => ⟨h, h3⟩, fun h3 => h3.2⟩
  · rw [whole_short s h]
    exact ⟨fun h2 => (by cases h2), fun h2 => absurd h2.1 h⟩

end Go.Proofs.YtjmoecfgpfdncaaDoor

/- Plain arithmetic for layer 1: powers of two, single bits, the lowest bits of a number, its sign in so many bits, and bits turned round in 64. No Go in sight. -/
namespace Go.Proofs.YtjmoecfgpfdncaaDoor
open Go.RowKit

def p2 (k : Nat) : Int := 2 ^ k
theorem p2_zero : p2 0 = 1 := rfl
theorem p2_succ (k : Nat) : p2 (k + 1) = p2 k * 2 := Int.pow_succ 2 k
theorem p2_add (a b : Nat) : p2 (a + b) = p2 a * p2 b := Int.pow_add 2 a b
theorem p2_pos (k : Nat) : 0 < p2 k := Int.pow_pos (by decide)
theorem p2_64 : p2 64 = 18446744073709551616 := by decide
theorem p2_63 : p2 63 = 9223372036854775808 := by decide
theorem p2_le {a b : Nat} (h : a ≤ b) : p2 a ≤ p2 b := by
  obtain ⟨c, rfl⟩ := Nat.exists_eq_add_of_le h
  rw [p2_add]
  have h1 := p2_pos a
  have h2 := p2_pos c
  have h3 : p2 a * 1 ≤ p2 a * p2 c := Int.mul_le_mul_of_nonneg_left (by omega) (by omega)
  omega
theorem p2_lt {a : Nat} (h : a < 64) : p2 a < 18446744073709551616 := by
  have h1 : p2 a ≤ p2 63 := p2_le (by omega)
  rw [p2_63] at h1; omega

def bt (v : Int) (k : Nat) : Int := v / p2 k % 2
theorem bt_01 (v : Int) (k : Nat) : bt v k = 0 ∨ bt v k = 1 := by unfold bt; omega
def lo (v : Int) (k : Nat) : Int := v % p2 k
theorem lo_bd (v : Int) (k : Nat) : 0 ≤ lo v k ∧ lo v k < p2 k := ⟨Int.emod_nonneg _ (by have := p2_pos k; omega), Int.emod_lt_of_pos _ (p2_pos k)⟩
theorem lo_zero (v : Int) : lo v 0 = 0 := by unfold lo p2; omega
theorem lo_all (v : Int) (k : Nat) (h0 : 0 ≤ v) (h1 : v < p2 k) : lo v k = v := Int.emod_eq_of_lt h0 h1
theorem emod_two_mul (v P : Int) (hP : 0 < P) : v % (P * 2) = v % P + v / P % 2 * P := by
  have e1 := Int.emod_add_mul_ediv v P
  have e2 := Int.emod_add_mul_ediv (v / P) 2
  have b1 := Int.emod_nonneg v (b := P) (by omega)
  have b2 := Int.emod_lt_of_pos v hP
  have b3 := Int.emod_nonneg (v / P) (b := 2) (by decide)
  have b4 := Int.emod_lt_of_pos (v / P) (b := 2) (by decide)
  have hv : v = (v % P + v / P % 2 * P) + (P * 2) * (v / P / 2) := by
    have e3 : P * (v / P) = P * (v / P % 2 + 2 * (v / P / 2)) := by rw [e2]
    rw [Int.mul_add, ← Int.mul_assoc] at e3
    have e4 : v / P % 2 * P = P * (v / P % 2) := Int.mul_comm _ _
    omega
  have hb : v / P % 2 * P = 0 ∨ v / P % 2 * P = P := by
    have : v / P % 2 = 0 ∨ v / P % 2 = 1 := by omega
    rcases this with h | h <;> rw [h] <;> simp
  conv => lhs; rw [hv]
  rw [Int.add_mul_emod_self_left]
  exact Int.emod_eq_of_lt (by omega) (by omega)
theorem lo_succ (v : Int) (k : Nat) : lo v (k + 1) = lo v k + bt v k * p2 k := by
  unfold lo bt; rw [p2_succ]; exact emod_two_mul v _ (p2_pos k)
theorem lo_succ0 (v : Int) (k : Nat) (h : bt v k = 0) : lo v (k + 1) = lo v k := by rw [lo_succ, h]; omega
theorem lo_succ1 (v : Int) (k : Nat) (h : bt v k = 1) : lo v (k + 1) = lo v k + p2 k := by rw [lo_succ, h]; omega
theorem p2_dvd {a b : Nat} (h : a ≤ b) : p2 a ∣ p2 b := by
  obtain ⟨c, rfl⟩ := Nat.exists_eq_add_of_le h
  rw [p2_add]; exact ⟨p2 c, rfl⟩
theorem lo_lo (v : Int) (a b : Nat) (h : a ≤ b) : lo (lo v b) a = lo v a := Int.emod_emod_of_dvd v (p2_dvd h)

/-- what the lowest n bits say, the highest of them below 0 -/
def sg (v : Int) (n : Nat) : Int := lo v (n - 1) - bt v (n - 1) * p2 (n - 1)
theorem wrap_lo (v : Int) : IntKind.u64.wrap v = lo v 64 := by rw [IntKind.wrap_u64]; unfold lo; rw [p2_64]
theorem wrap64_hi (x : Int) (h0 : p2 63 ≤ x) (h1 : x < p2 64) : wrap64 x = x - p2 64 := by rw [p2_63] at h0; rw [p2_64] at *; unfold wrap64; omega
theorem wrap64_lo (x : Int) (h0 : 0 ≤ x) (h1 : x < p2 63) : wrap64 x = x := by rw [p2_63] at h1; unfold wrap64; omega
theorem lo_shl (v : Int) (n k : Nat) : lo (v * p2 k) (n + k) = lo v n * p2 k := by
  unfold lo; rw [p2_add, Int.mul_comm v, Int.mul_comm (p2 n), Int.mul_emod_mul_of_pos _ _ (p2_pos k), Int.mul_comm]
theorem sign_math (v : Int) (n : Nat) (h1 : 1 ≤ n) (h2 : n ≤ 64) : wrap64 (IntKind.u64.wrap (v * p2 (64 - n))) / p2 (64 - n) = sg v n := by
  obtain ⟨m, rfl⟩ : ∃ m, n = m + 1 := ⟨n - 1, by omega⟩
  obtain ⟨k, hk⟩ : ∃ k, 64 - (m + 1) = k := ⟨_, rfl⟩
  rw [hk, wrap_lo]
  have e64 : 64 = (m + 1) + k := by omega
  have e63 : 63 = m + k := by omega
  have hl : lo (v * p2 k) 64 = lo v (m + 1) * p2 k := by
    rw [e64]; exact lo_shl v (m + 1) k
  rw [hl]
  have hp := p2_pos k
  have hm := lo_bd v m
  have hs : sg v (m + 1) = lo v m - bt v m * p2 m := rfl
  rw [hs]
  rcases bt_01 v m with hb | hb
  · rw [lo_succ0 v m hb, hb]
    have hx : lo v m * p2 k < p2 63 := by
      rw [e63, p2_add]; exact Int.mul_lt_mul_of_pos_right hm.2 hp
    rw [wrap64_lo _ (Int.mul_nonneg hm.1 (by omega)) hx, Int.mul_ediv_cancel _ (by omega)]
    omega
  · rw [lo_succ1 v m hb, hb]
    have hx0 : p2 63 ≤ (lo v m + p2 m) * p2 k := by
      rw [e63, p2_add]; exact Int.mul_le_mul_of_nonneg_right (by omega) (by omega)
    have hx1 : (lo v m + p2 m) * p2 k < p2 64 := by
      rw [e64, p2_add]; refine Int.mul_lt_mul_of_pos_right ?_ hp; rw [p2_succ]; omega
    rw [wrap64_hi _ hx0 hx1]
    have e : (lo v m + p2 m) * p2 k - p2 64 = (lo v m - p2 m) * p2 k := by
      rw [e64, p2_add, p2_succ, ← Int.sub_mul]; congr 1; omega
    rw [e, Int.mul_ediv_cancel _ (by omega)]; omega
theorem sg_bd (v : Int) (n : Nat) (h1 : 1 ≤ n) (h2 : n ≤ 64) : -9223372036854775808 ≤ sg v n ∧ sg v n ≤ 9223372036854775807 := by
  have hm := lo_bd v (n - 1)
  have hp : p2 (n - 1) ≤ p2 63 := p2_le (by omega)
  have hq := p2_pos (n - 1)
  rw [p2_63] at hp
  unfold sg
  rcases bt_01 v (n - 1) with hb | hb <;> rw [hb] <;> omega
theorem bt_lo (v : Int) (a b : Nat) (h : a < b) : bt (lo v b) a = bt v a := by
  have h1 := lo_succ (lo v b) a
  have h2 := lo_succ v a
  rw [lo_lo _ _ _ (by omega), lo_lo _ _ _ (by omega)] at h1
  have h3 : bt (lo v b) a * p2 a = bt v a * p2 a := by omega
  exact Int.eq_of_mul_eq_mul_right (by have := p2_pos a; omega) h3
theorem sg_lo (v : Int) (n b : Nat) (h1 : 1 ≤ n) (h2 : n ≤ b) : sg (lo v b) n = sg v n := by
  unfold sg; rw [lo_lo _ _ _ (by omega), bt_lo _ _ _ (by omega)]
theorem narrow_math (v : Int) (n : Nat) (h2 : n ≤ 64) : IntKind.u64.wrap (IntKind.u64.wrap v * p2 (64 - n)) / p2 (64 - n) = lo v n := by
  obtain ⟨k, hk⟩ : ∃ k, 64 - n = k := ⟨_, rfl⟩
  rw [hk, wrap_lo, wrap_lo]
  have e64 : lo (lo v 64 * p2 k) 64 = lo (lo v 64 * p2 k) (n + k) := by rw [show n + k = 64 by omega]
  rw [e64, lo_shl, lo_lo _ _ _ h2, Int.mul_ediv_cancel _ (by have := p2_pos k; omega)]
/-- what room is in n bits -/
theorem sg_eq (v : Int) (n : Nat) (h1 : 1 ≤ n) : sg v n = v ↔ -p2 (n - 1) ≤ v ∧ v < p2 (n - 1) := by
  obtain ⟨m, rfl⟩ : ∃ m, n = m + 1 := ⟨n - 1, by omega⟩
  have hm := lo_bd v m
  have hp := p2_pos m
  have hs : sg v (m + 1) = lo v m - bt v m * p2 m := rfl
  simp only [Nat.add_sub_cancel]
  rw [hs]
  constructor
  · intro h
    rcases bt_01 v m with hb | hb <;> rw [hb] at h <;> omega
  · rintro ⟨h3, h4⟩
    by_cases h5 : 0 ≤ v
    · have h6 : lo v m = v := lo_all v m h5 h4
      have h7 : bt v m = 0 := by unfold bt; rw [Int.ediv_eq_zero_of_lt h5 h4]; rfl
      rw [h6, h7]; omega
    · have h6 : v / p2 m = -1 := by
        have e1 := Int.emod_add_mul_ediv v (p2 m)
        have b1 := Int.emod_nonneg v (b := p2 m) (by omega)
        have b2 := Int.emod_lt_of_pos v hp
        have h8 : v / p2 m < 0 := Int.ediv_neg_of_neg_of_pos (by omega) hp
        have h9 : -1 ≤ v / p2 m := by
          rw [Int.le_ediv_iff_mul_le hp]; omega
        omega
      have h7 : bt v m = 1 := by unfold bt; rw [h6]; rfl
      have h8 : lo v m = v + p2 m := by
        have e1 := Int.emod_add_mul_ediv v (p2 m)
        rw [h6] at e1
        unfold lo; omega
      rw [h7, h8]; omega

/-! bits turned round in 64 -/
def rot (v : Int) (a : Nat) : Int := lo v (64 - a) * p2 a + v / p2 (64 - a)
theorem split_at (v : Int) (k : Nat) : lo v k + p2 k * (v / p2 k) = v := Int.emod_add_mul_ediv v (p2 k)
theorem hi_bd (v : Int) (a : Nat) (ha : a ≤ 64) (h0 : 0 ≤ v) (h1 : v < p2 64) : 0 ≤ v / p2 (64 - a) ∧ v / p2 (64 - a) < p2 a := by
  have hp := p2_pos (64 - a)
  refine ⟨Int.ediv_nonneg h0 (by omega), ?_⟩
  rw [Int.ediv_lt_iff_lt_mul hp, ← p2_add, show a + (64 - a) = 64 by omega]; exact h1
theorem rot_bd (v : Int) (a : Nat) (ha : a ≤ 64) (h0 : 0 ≤ v) (h1 : v < p2 64) : 0 ≤ rot v a ∧ rot v a < p2 64 := by
  have hb := hi_bd v a ha h0 h1
  have hl := lo_bd v (64 - a)
  have hp := p2_pos a
  unfold rot
  refine ⟨by have := Int.mul_nonneg hl.1 (Int.le_of_lt hp); omega, ?_⟩
  have h3 : (lo v (64 - a) + 1) * p2 a ≤ p2 (64 - a) * p2 a := Int.mul_le_mul_of_nonneg_right (by omega) (by omega)
  rw [← p2_add, show 64 - a + a = 64 by omega, Int.add_mul] at h3
  omega
theorem rot_mul (v : Int) (a : Nat) (ha : a ≤ 64) : rot v a = v * p2 a - (p2 64 - 1) * (v / p2 (64 - a)) := by
  have hs := split_at v (64 - a)
  have h4 : v * p2 a = lo v (64 - a) * p2 a + p2 64 * (v / p2 (64 - a)) := by
    conv => lhs; rw [← hs]
    rw [Int.add_mul, Int.mul_right_comm, ← p2_add, show 64 - a + a = 64 by omega]
  unfold rot
  rw [h4, Int.sub_mul]; omega
theorem rot_mod (v : Int) (a : Nat) (ha : a ≤ 64) : rot v a % (p2 64 - 1) = v * p2 a % (p2 64 - 1) := by
  rw [rot_mul v a ha, Int.sub_mul_emod_self_left]
theorem rot_top (a : Nat) (ha : a ≤ 64) : rot (p2 64 - 1) a = p2 64 - 1 := by
  have hp := p2_pos a
  have hq := p2_pos (64 - a)
  have hpq : p2 64 = p2 a * p2 (64 - a) := by rw [← p2_add, show a + (64 - a) = 64 by omega]
  have e : p2 64 - 1 = (p2 (64 - a) - 1) + p2 (64 - a) * (p2 a - 1) := by rw [Int.mul_sub, hpq, Int.mul_comm (p2 (64 - a))]; omega
  have h1 : lo (p2 64 - 1) (64 - a) = p2 (64 - a) - 1 := by
    unfold lo; rw [e, Int.add_mul_emod_self_left]; exact Int.emod_eq_of_lt (by omega) (by omega)
  have h2 : (p2 64 - 1) / p2 (64 - a) = p2 a - 1 := by
    rw [e, Int.add_mul_ediv_left _ _ (by omega), Int.ediv_eq_zero_of_lt (by omega) (by omega)]; omega
  unfold rot
  rw [h1, h2, Int.sub_mul, hpq, Int.mul_comm (p2 (64 - a))]; omega
theorem rot_lt (v : Int) (a : Nat) (ha : a ≤ 64) (h0 : 0 ≤ v) (h1 : v < p2 64 - 1) : rot v a < p2 64 - 1 := by
  have hb := rot_bd v a ha h0 (by omega)
  have hx : rot v a ≠ p2 64 - 1 := by
    intro h
    -- turned back it would be all ones
    have hi := hi_bd v a ha h0 (by omega)
    have hl := lo_bd v (64 - a)
    have hp := p2_pos a
    have hq := p2_pos (64 - a)
    have hs := split_at v (64 - a)
    have hpq : p2 64 = p2 (64 - a) * p2 a := by rw [← p2_add, show 64 - a + a = 64 by omega]
    unfold rot at h
    have hle : lo v (64 - a) ≤ p2 (64 - a) - 1 := by omega
    have h3 : lo v (64 - a) * p2 a ≤ (p2 (64 - a) - 1) * p2 a := Int.mul_le_mul_of_nonneg_right hle (by omega)
    rw [Int.sub_mul] at h3
    have h4 : v / p2 (64 - a) = p2 a - 1 := by omega
    have h5 : lo v (64 - a) * p2 a = (p2 (64 - a) - 1) * p2 a := by rw [Int.sub_mul]; omega
    have h6 := Int.eq_of_mul_eq_mul_right (by omega) h5
    rw [h4, h6, Int.mul_sub] at hs
    omega
  omega
theorem p2_mod (n : Nat) : ∀ v : Int, v * p2 n % (p2 64 - 1) = v * p2 (n % 64) % (p2 64 - 1) := by
  intro v
  have h : ∀ q r : Nat, v * p2 (64 * q + r) % (p2 64 - 1) = v * p2 r % (p2 64 - 1) := by
    intro q
    induction q with
    | zero => intro r; rw [show 64 * 0 + r = r by omega]
    | succ q ih =>
      intro r
      rw [← ih r, show 64 * (q + 1) + r = (64 * q + r) + 64 by omega, p2_add _ 64]
      have e : v * (p2 (64 * q + r) * p2 64) = v * p2 (64 * q + r) + (p2 64 - 1) * (v * p2 (64 * q + r)) := by
        rw [Int.sub_mul, ← Int.mul_assoc, Int.mul_comm _ (p2 64)]; omega
      rw [e, Int.add_mul_emod_self_left]
  have h2 := h (n / 64) (n % 64)
  rw [show 64 * (n / 64) + n % 64 = n by omega] at h2
  exact h2
theorem rot_rot (v : Int) (a b : Nat) (ha : a ≤ 64) (hb : b ≤ 64) (h0 : 0 ≤ v) (h1 : v < p2 64) : rot (rot v a) b = rot v ((a + b) % 64) := by
  have hp : p2 64 = 18446744073709551616 := p2_64
  by_cases hv : v = p2 64 - 1
  · subst hv; rw [rot_top a ha, rot_top b hb, rot_top _ (by omega)]
  · have hc : (a + b) % 64 ≤ 64 := by omega
    have l1 := rot_lt v a ha h0 (by omega)
    have b1 := rot_bd v a ha h0 h1
    have l2 := rot_lt (rot v a) b hb b1.1 l1
    have b2 := rot_bd (rot v a) b hb b1.1 b1.2
    have l3 := rot_lt v _ hc h0 (by omega)
    have b3 := rot_bd v _ hc h0 h1
    have e : rot (rot v a) b % (p2 64 - 1) = rot v ((a + b) % 64) % (p2 64 - 1) := by
      rw [rot_mod _ _ hb, rot_mod _ _ hc, ← p2_mod (a + b), Int.mul_emod, rot_mod _ _ ha, ← Int.mul_emod, Int.mul_assoc, ← p2_add]
    rwa [Int.emod_eq_of_lt b2.1 l2, Int.emod_eq_of_lt b3.1 l3] at e
theorem rot_zero (v : Int) (h0 : 0 ≤ v) (h1 : v < p2 64) : rot v 0 = v := by
  unfold rot; rw [lo_all _ _ h0 h1, Int.ediv_eq_zero_of_lt h0 h1, p2_zero]; omega
/-- so many bits, each at its new place -/
def turned (v : Int) (a m : Nat) : Int := if m ≤ 64 - a then lo v m * p2 a else lo v (64 - a) * p2 a + lo v m / p2 (64 - a)
theorem turned_zero (v : Int) (a : Nat) : turned v a 0 = 0 := by unfold turned; rw [if_pos (by omega), lo_zero]; omega
theorem turned_all (v : Int) (a : Nat) (ha : a < 64) (h0 : 0 ≤ v) (h1 : v < p2 64) : turned v a 64 = rot v a := by
  unfold turned rot
  split
  · obtain rfl : a = 0 := by omega
    rw [lo_all _ _ h0 h1, Int.ediv_eq_zero_of_lt h0 h1]; omega
  · rw [lo_all v 64 h0 h1]
theorem turned_succ (v : Int) (a m : Nat) (ha : a < 64) (hm : m < 64) : turned v a (m + 1) = turned v a m + bt v m * p2 ((m + a) % 64) := by
  unfold turned
  by_cases h : m + 1 ≤ 64 - a
  · rw [if_pos h, if_pos (by omega), lo_succ, Int.add_mul, Int.mul_assoc, ← p2_add]
    by_cases h2 : m + a < 64
    · rw [Nat.mod_eq_of_lt h2]
    · omega
  · rw [if_neg h]
    have e : (m + a) % 64 = m - (64 - a) := by omega
    have es : p2 m = p2 (m - (64 - a)) * p2 (64 - a) := by rw [← p2_add, show m - (64 - a) + (64 - a) = m by omega]
    rw [e, lo_succ v m, es, ← Int.mul_assoc, Int.add_mul_ediv_right _ _ (by have := p2_pos (64 - a); omega)]
    by_cases h3 : m ≤ 64 - a
    · obtain rfl : m = 64 - a := by omega
      rw [if_pos (by omega)]
      have hb := lo_bd v (64 - a)
      rw [Int.ediv_eq_zero_of_lt hb.1 hb.2]; omega
    · rw [if_neg h3]; omega
theorem nat_or_add (q y a : Nat) (hy : y < 2 ^ a) : 2 ^ a * q ||| y = 2 ^ a * q + y := by
  rw [Nat.mul_comm, ← Nat.shiftLeft_eq, Nat.shiftLeft_add_eq_or_of_lt hy]
theorem or_add (x y : Int) (a : Nat) (ha : a ≤ 64) (hx : x % p2 a = 0) (hx0 : 0 ≤ x) (hx1 : x < p2 64) (hy0 : 0 ≤ y) (hy1 : y < p2 a) : bits .or .u64 x y = x + y := by
  have hle := p2_le ha
  have h64 := p2_64
  obtain ⟨x, rfl⟩ := Int.eq_ofNat_of_zero_le hx0
  obtain ⟨y, rfl⟩ := Int.eq_ofNat_of_zero_le hy0
  have hpa : p2 a = ((2 ^ a : Nat) : Int) := (Int.natCast_pow 2 a).symm
  rw [bits_or_u64_nat x y (by omega) (by omega)]
  rw [hpa] at hx hy1
  have hxm : x % 2 ^ a = 0 := by exact_mod_cast hx
  have hym : y < 2 ^ a := by exact_mod_cast hy1
  have hd : 2 ^ a * (x / 2 ^ a) = x := by have := Nat.mod_add_div x (2 ^ a); omega
  have h := nat_or_add (x / 2 ^ a) y a hym
  rw [hd] at h
  rw [h]; exact Int.natCast_add _ _

end Go.Proofs.YtjmoecfgpfdncaaDoor

/- The reference of layer 1, as far as later layers lean on it: Power, Bit, Flip; and a text with a bit turned. -/
namespace Go.Proofs.YtjmoecfgpfdncaaDoor
open Go.RowKit

theorem bit_math (v : Int) (k : Nat) (v0 : 0 ≤ v) (v1 : v < 18446744073709551616) : (IntKind.u64.wrap (v.tdiv (p2 k))).tmod 2 = bt v k := by
  have hp := p2_pos k
  have hd : 0 ≤ v / p2 k := Int.ediv_nonneg v0 (by omega)
  have hl : v / p2 k ≤ v := Int.ediv_le_self _ v0
  rw [Int.tdiv_eq_ediv_of_nonneg v0, IntKind.wrap_u64, Int.emod_eq_of_lt hd (by omega), Int.tmod_eq_emod_of_nonneg hd]
  rfl

/-- a text with the bit j of its byte i the other way -/
def flipS (s : ByteArray) (i j : Nat) : ByteArray := strOfNums ((nums s).set i (bits .xor .u8 ((nums s).getD i 0) (2 ^ j % 256)))
theorem len_set (l : List Int) (i : Nat) (x : Int) (n : Nat) (h : l.length = n) : (l.set i x).length = n := by rw [List.length_set, h]

theorem xor_nil (c j : Nat) (hc : c < 256) (hj : j < 8) (hb : bt c j = 0) : bits .xor .u8 (c : Int) (2 ^ j % 256) = (c + p2 j) % 256 := by
  have h : ∀ c, c < 256 → ∀ j, j < 8 → bt ((c : Nat) : Int) j = 0 → bits .xor .u8 ((c : Nat) : Int) (2 ^ (j : Nat) % 256) = (c + p2 j) % 256 := by decide +kernel
  exact h c hc j hj hb
theorem xor_one (c j : Nat) (hc : c < 256) (hj : j < 8) (hb : bt c j = 1) : bits .xor .u8 (c : Int) (2 ^ j % 256) = (c - p2 j) % 256 := by
  have h : ∀ c, c < 256 → ∀ j, j < 8 → bt ((c : Nat) : Int) j = 1 → bits .xor .u8 ((c : Nat) : Int) (2 ^ (j : Nat) % 256) = (c - p2 j) % 256 := by decide +kernel
  exact h c hc j hj hb

end Go.Proofs.YtjmoecfgpfdncaaDoor

/- Texts with a bit turned, and a text as one number: what turning a bit does to it. -/
namespace Go.Proofs.YtjmoecfgpfdncaaDoor
open Go.RowKit

/-- a byte with one bit the other way -/
def fb (c : UInt8) (j : Nat) : UInt8 := UInt8.ofNat (bits .xor .u8 (c.toNat : Int) (2 ^ j % 256)).toNat
theorem fb_fb (c : UInt8) (j : Nat) (hj : j < 8) : fb (fb c j) j = c := by
  have h : ∀ n, n < 256 → ∀ j, j < 8 → fb (fb (UInt8.ofNat n) j) j = UInt8.ofNat n := by decide +kernel
  have := h _ c.toNat_lt j hj
  rwa [UInt8.ofNat_toNat] at this
theorem fb_comm (c : UInt8) (j k : Nat) (hj : j < 8) (hk : k < 8) : fb (fb c j) k = fb (fb c k) j := by
  have h : ∀ n, n < 256 → ∀ j, j < 8 → ∀ k, k < 8 → fb (fb (UInt8.ofNat n) j) k = fb (fb (UInt8.ofNat n) k) j := by decide +kernel
  have := h _ c.toNat_lt j hj k hk
  rwa [UInt8.ofNat_toNat] at this
theorem fb_ne (c : UInt8) (j k : Nat) (hj : j < 8) (hk : k < 8) (h0 : fb (fb c j) k = c) : j = k := by
  have h : ∀ n, n < 256 → ∀ j, j < 8 → ∀ k, k < 8 → fb (fb (UInt8.ofNat n) j) k = UInt8.ofNat n → j = k := by decide +kernel
  have := h _ c.toNat_lt j hj k hk
  rw [UInt8.ofNat_toNat] at this
  exact this h0
theorem fb_self (c : UInt8) (j : Nat) (hj : j < 8) : fb c j ≠ c := by
  have h : ∀ n, n < 256 → ∀ j, j < 8 → fb (UInt8.ofNat n) j ≠ UInt8.ofNat n := by decide +kernel
  have := h _ c.toNat_lt j hj
  rwa [UInt8.ofNat_toNat] at this
/-- the same of a list of bytes -/
def fl (l : List UInt8) (i j : Nat) : List UInt8 := l.set i (fb (l.getD i 0) j)
theorem fl_length (l : List UInt8) (i j : Nat) : (fl l i j).length = l.length := by simp [fl]
theorem fl_get (l : List UInt8) (i j k : Nat) (hk : k < l.length) : (fl l i j).getD k 0 = if i = k then fb (l.getD i 0) j else l.getD k 0 := by
  unfold fl
  by_cases h : i = k
  · subst h; simp [List.getD, hk]
  · simp [List.getD, h]
theorem list_ext {a b : List UInt8} (h : a.length = b.length) (h2 : ∀ k, k < a.length → a.getD k 0 = b.getD k 0) : a = b := by
  apply List.ext_getElem h
  intro k h3 h4
  have := h2 k h3
  simpa [List.getD, h3, h4] using this
theorem fl_fl (l : List UInt8) (i j : Nat) (hi : i < l.length) (hj : j < 8) : fl (fl l i j) i j = l := by
  apply list_ext (by rw [fl_length, fl_length])
  intro k hk
  rw [fl_length, fl_length] at hk
  rw [fl_get _ _ _ _ (by rw [fl_length]; exact hk), fl_get _ _ _ _ hi, if_pos rfl, fl_get _ _ _ _ hk]
  split
  · subst_vars; exact fb_fb _ _ hj
  · rfl
theorem fl_comm (l : List UInt8) (i j i' j' : Nat) (hi : i < l.length) (hi' : i' < l.length) (hj : j < 8) (hj' : j' < 8) : fl (fl l i j) i' j' = fl (fl l i' j') i j := by
  apply list_ext (by simp only [fl_length])
  intro k hk
  simp only [fl_length] at hk
  rw [fl_get (fl l i j) i' j' k (by rw [fl_length]; exact hk), fl_get (fl l i' j') i j k (by rw [fl_length]; exact hk), fl_get l i j i' hi', fl_get l i' j' i hi, fl_get l i j k hk, fl_get l i' j' k hk]
  by_cases h1 : i = i'
  · subst h1
    by_cases h2 : i = k
    · simp only [h2, if_true]; exact fb_comm _ _ _ hj hj'
    · simp only [h2, if_false]
  · by_cases h2 : i' = k
    · subst h2; simp only [if_true, h1, if_false]
    · by_cases h3 : i = k
      · subst h3; simp only [h2, if_true, if_false, h1]
      · simp only [h2, h3, if_false]
theorem fl_ne (l : List UInt8) (i j i' j' : Nat) (hi : i < l.length) (hi' : i' < l.length) (hj : j < 8) (hj' : j' < 8) (h : fl (fl l i j) i' j' = l) : i = i' ∧ j = j' := by
  have h1 : (fl (fl l i j) i' j').getD i 0 = l.getD i 0 := by rw [h]
  rw [fl_get _ _ _ _ (by rw [fl_length]; exact hi), fl_get _ _ _ _ hi', fl_get _ _ _ _ hi] at h1
  by_cases h2 : i = i'
  · subst h2
    simp only [if_true] at h1
    exact ⟨rfl, fb_ne _ _ _ hj hj' h1⟩
  · simp only [if_true, Ne.symm h2, if_false] at h1
    exact absurd h1 (fb_self _ _ hj)
theorem flipS_eq (s : ByteArray) (i j : Nat) (hi : i < s.size) : flipS s i j = ⟨(fl s.data.toList i j).toArray⟩ := by
  unfold flipS
  apply strOfNums_eq
  rw [nums_get s i hi, List.map_set]
  have e : (nums s).map (fun n : Int => UInt8.ofNat n.toNat) = s.data.toList := by
    unfold nums
    rw [List.map_map]
    have e : ((fun n : Int => UInt8.ofNat n.toNat) ∘ fun b : UInt8 => (b.toNat : Int)) = id := by funext b; simp
    rw [e, List.map_id]
  rw [e]
  unfold fl fb
  have hg : s.data.toList.getD i 0 = s[i] := by simp [List.getD, hi]; rfl
  rw [hg]
theorem flipS_list (s : ByteArray) (i j : Nat) (hi : i < s.size) : (flipS s i j).data.toList = fl s.data.toList i j := by rw [flipS_eq s i j hi]
theorem flipS_size (s : ByteArray) (i j : Nat) (hi : i < s.size) : (flipS s i j).size = s.size := by
  have h : (flipS s i j).data.toList.length = s.data.toList.length := by rw [flipS_list s i j hi, fl_length]
  simpa using h
theorem bytes_ext {a b : ByteArray} (h : a.data.toList = b.data.toList) : a = b := by
  cases a; cases b
  simp only at h
  congr 1
  exact Array.toList_inj.1 h
theorem len_list (s : ByteArray) : s.data.toList.length = s.size := by simp
theorem flipS_twice (s : ByteArray) (i j : Nat) (hi : i < s.size) (hj : j < 8) : flipS (flipS s i j) i j = s := by
  apply bytes_ext
  rw [flipS_list _ _ _ (by rw [flipS_size s i j hi]; exact hi), flipS_list s i j hi, fl_fl _ _ _ (by rw [len_list]; exact hi) hj]
theorem flipS_comm (s : ByteArray) (i j i' j' : Nat) (hi : i < s.size) (hi' : i' < s.size) (hj : j < 8) (hj' : j' < 8) : flipS (flipS s i j) i' j' = flipS (flipS s i' j') i j := by
  apply bytes_ext
  rw [flipS_list _ _ _ (by rw [flipS_size s i j hi]; exact hi'), flipS_list s i j hi, flipS_list _ _ _ (by rw [flipS_size s i' j' hi']; exact hi), flipS_list s i' j' hi']
  exact fl_comm _ _ _ _ _ (by rw [len_list]; exact hi) (by rw [len_list]; exact hi') hj hj'
theorem flipS_ne (s : ByteArray) (i j i' j' : Nat) (hi : i < s.size) (hi' : i' < s.size) (hj : j < 8) (hj' : j' < 8) (h : (flipS (flipS s i j) i' j').data.toList = s.data.toList) : i = i' ∧ j = j' := by
  rw [flipS_list _ _ _ (by rw [flipS_size s i j hi]; exact hi'), flipS_list s i j hi] at h
  exact fl_ne _ _ _ _ _ (by rw [len_list]; exact hi) (by rw [len_list]; exact hi') hj hj' h

/-- a text's bytes -/
theorem bs_inj {a b : ByteArray} (h : bs a = bs b) : a = b := bytes_ext h
theorem numN_bit : ∀ (l : List UInt8) (k j : Nat) (c : UInt8), l[k]? = some c → j < 8 → (numN l).testBit (8 * k + j) = c.toNat.testBit j
  | [], k, j, c, h, _ => by simp at h
  | b :: l, 0, j, c, h, hj => by
    simp at h; subst h
    have hb : b.toNat < 2 ^ 8 := b.toNat_lt
    rw [show numN (b :: l) = 2 ^ 8 * numN l + b.toNat by simp only [numN]; omega, Nat.testBit_two_pow_mul_add _ hb, if_pos (by omega), show 8 * 0 + j = j by omega]
  | b :: l, k + 1, j, c, h, hj => by
    have hb : b.toNat < 2 ^ 8 := b.toNat_lt
    rw [show numN (b :: l) = 2 ^ 8 * numN l + b.toNat by simp only [numN]; omega, Nat.testBit_two_pow_mul_add _ hb, if_neg (by omega), show 8 * (k + 1) + j - 8 = 8 * k + j by omega]
    exact numN_bit l k j c (by simpa using h) hj
theorem str_bit (s : ByteArray) (k j : Nat) (hk : k < s.size) (hj : j < 8) : (numN (bs s)).testBit (8 * k + j) = s[k].toNat.testBit j :=
  numN_bit _ k j _ (by simp [bs, hk]; rfl) hj
theorem fb_bit (c : UInt8) (j t : Nat) (hj : j < 8) (ht : t < 8) : (fb c j).toNat.testBit t = (c.toNat.testBit t ^^ decide (j = t)) := by
  have h : ∀ n, n < 256 → ∀ j, j < 8 → ∀ t, t < 8 → (fb (UInt8.ofNat n) j).toNat.testBit t = ((UInt8.ofNat n).toNat.testBit t ^^ decide (j = t)) := by decide +kernel
  have := h _ c.toNat_lt j hj t ht
  rwa [UInt8.ofNat_toNat] at this
/-- a bit turned is a power of two put to the number -/
theorem numN_fl (l : List UInt8) (i j : Nat) (hi : i < l.length) (hj : j < 8) : numN (fl l i j) = numN l ^^^ 2 ^ (8 * i + j) := by
  apply Nat.eq_of_testBit_eq
  intro t
  rw [Nat.testBit_xor, Nat.testBit_two_pow]
  obtain ⟨k, r, rfl, hr⟩ : ∃ k r, t = 8 * k + r ∧ r < 8 := ⟨t / 8, t % 8, by omega, by omega⟩
  by_cases hk : k < l.length
  · have hg := fl_get l i j k hk
    have h1 : (fl l i j)[k]? = some ((fl l i j).getD k 0) := by simp [List.getD, fl_length, hk]
    have h2 : l[k]? = some (l.getD k 0) := by simp [List.getD, hk]
    rw [numN_bit _ k r _ h1 hr, numN_bit _ k r _ h2 hr, hg]
    by_cases e : i = k
    · subst e
      rw [if_pos rfl, fb_bit _ _ _ hj hr]
      congr 1
      exact decide_eq_decide.2 ⟨fun h => by omega, fun h => by omega⟩
    · rw [if_neg e, decide_eq_false (by omega)]; simp
  · have b1 := numN_lt (fl l i j)
    have b2 := numN_lt l
    rw [fl_length] at b1
    have z1 : (numN (fl l i j)).testBit (8 * k + r) = false := Nat.testBit_lt_two_pow (Nat.lt_of_lt_of_le b1 (Nat.pow_le_pow_right (by decide) (by omega)))
    have z2 : (numN l).testBit (8 * k + r) = false := Nat.testBit_lt_two_pow (Nat.lt_of_lt_of_le b2 (Nat.pow_le_pow_right (by decide) (by omega)))
    rw [z1, z2, decide_eq_false (by omega)]; rfl
theorem numN_flip (s : ByteArray) (i j : Nat) (hi : i < s.size) (hj : j < 8) : numN (bs (flipS s i j)) = numN (bs s) ^^^ 2 ^ (8 * i + j) := by
  unfold bs
  rw [flipS_list s i j hi]
  exact numN_fl _ i j (by rw [len_list]; exact hi) hj

end Go.Proofs.YtjmoecfgpfdncaaDoor
