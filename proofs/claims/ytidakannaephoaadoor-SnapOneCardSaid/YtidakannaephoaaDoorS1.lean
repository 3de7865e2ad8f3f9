/- Texts of one claim, merged: Kit, GeM, BitsM, Ref1P, TagM, Blk, Bs, SnM, Inv, Inv2. -/
import Derived.Test.YtidakannaephoaaDoorRows
import Derived.WalkKit
import Derived.ProofKit
import Derived.OpenShut
import Derived.Outline
import Derived.Lib.Hide
import Derived.WalkLawsBesides
import Derived.WalkSpells
import Derived.Handy
import Derived.Laws.BytesArg
import Derived.Laws.AppendOwn
import Derived.Lib.ConvBytes
import Derived.RowKit
import Derived.Laws.Bits64b
import Derived.Laws.BitsLemmas
import Derived.Deep.WholeRow
import Derived.Deep.OwnRows
import Derived.Orders

/- Small lemmas of no one stage: what a call returns, slices of bytes that the call owns, turned into a text. -/
namespace Go.Proofs.YtidakannaephoaaDoor
open Go.RowKit

theorem ret_int {k : IntKind} {a b : Int} (h : a = b) : Ending.returned (.int k a) = .returned (.int k b) := by rw [h]
theorem ret_bool {a b : Bool} (h : a = b) : Ending.returned (.bool a) = .returned (.bool b) := by rw [h]
theorem ret_str {a b : ByteArray} {x : Value} (h : a = b) : Ending.returned (.tuple #[.string a, x]) = .returned (.tuple #[.string b, x]) := by rw [h]
theorem ret_tup {a b : Array Value} (h : a = b) : Ending.returned (.tuple a) = .returned (.tuple b) := by rw [h]

theorem strOfNums_eq (xs : List Int) (l : List UInt8) (h : xs.map (fun n => UInt8.ofNat n.toNat) = l) : strOfNums xs = ⟨l.toArray⟩ := by unfold strOfNums; rw [h]

theorem cell_lt {w : World} {a : Addr} {v : Value} (h : w.cell? a = some v) : a.block < w.heap.size := by
  rcases Nat.lt_or_ge a.block w.heap.size with h2 | h2
  · exact h2
  · simp [World.cell?, Array.getElem?_eq_none h2] at h

/-- a slice of bytes that the call owns, as a text -/
theorem conv_owned {P : Program} {w : World} {src e dst : TypeId} (hs : P.underlying src = some (.slice e)) (he : P.underlying e = some (.int .u8)) (hd : P.underlying dst = some .string)
    {base : Nat} {v : Value} {n : Nat} {ns : List Int} (h : w.ownsRow base e 1 v n (ns.map (Value.int .u8))) :
    Sem.run P (convert src dst v) w = .ok (.string (strOfNums ns)) w := by
  obtain ⟨hl, h⟩ := h
  rcases h with ⟨rfl, rfl⟩ | ⟨g, cap, cur, rfl, _, hg, hc, _, hz, ht⟩
  · have hn : ns = [] := by simpa using hl
    subst hn
    rw [run_convert_bytes_nil w src e hs he 0 0 dst hd]; rfl
  · have hln : ns.length = n := by simpa using hl
    refine run_convert_bytes_arg w src e hs he g 0 n cap ns hln ?_ dst hd
    intro i hi
    rw [Nat.zero_add]
    have h1 : cur.toList[i]? = some (.int .u8 (ns.getD i 0)) := by
      have h2 : (cur.toList.take (n * 1))[i]? = cur.toList[i]? := List.getElem?_take_of_lt (by omega)
      rw [← h2, ht]
      have h3 : i < ns.length := by omega
      simp [List.getD, h3]
    simpa [World.cell?, hg] using h1

/-- the first cells of a block are these bytes -/
def BytesAt (w : World) (b : Nat) (ns : List Int) : Prop := ∀ i, i < ns.length → w.cell? ⟨b, i, none⟩ = some (.int .u8 (ns.getD i 0))
theorem BytesAt.drew {w : World} {b : Nat} {ns : List Int} (h : BytesAt w b ns) : BytesAt w.drew b ns := h
theorem BytesAt.set {w : World} {b : Nat} {ns : List Int} (h : BytesAt w b ns) (i : Nat) (x : Int) : BytesAt (w.setCell ⟨b, i, none⟩ (.int .u8 x)) b (ns.set i x) := by
  intro k hk
  have hk' : k < ns.length := by simpa using hk
  by_cases e : k = i
  · subst e
    rw [World.cell?_setCell_same w _ _ (h k hk')]
    simp [List.getD, hk']
  · have hne : (⟨b, i, none⟩ : Addr) ≠ ⟨b, k, none⟩ := fun h2 => e (congrArg Addr.off h2).symm
    rw [World.cell?_setCell_other w _ _ _ hne, h k hk']
    simp [List.getD, Ne.symm e]
theorem BytesAt.conv {P : Program} {w : World} {src e dst : TypeId} (hs : P.underlying src = some (.slice e)) (he : P.underlying e = some (.int .u8)) (hd : P.underlying dst = some .string)
    {b : Nat} {ns : List Int} (h : BytesAt w b ns) (n cap : Nat) (hn : ns.length = n) : Sem.run P (convert src dst (.slice (some ⟨b, 0, none⟩) n cap)) w = .ok (.string (strOfNums ns)) w := by
  refine run_convert_bytes_arg w src e hs he b 0 n cap ns hn ?_ dst hd
  intro i hi
  rw [Nat.zero_add]
  exact h i (by omega)

end Go.Proofs.YtidakannaephoaaDoor

/- Geometries: what the document asks of Check, Snaps, Most, Raw, Bound, Spread, Number, At, and what follows from it. -/
namespace Go.Proofs.YtidakannaephoaaDoor
set_option maxRecDepth 100000
open Go.RowKit

/-- a geometry's cells, and an address's -/
def gv (b l y n s r : Int) : Array Value := #[.int .i64 b, .int .i64 l, .int .i64 y, .int .i64 n, .int .i64 s, .int .i64 r]
def av (x z p : Int) : Array Value := #[.int .i64 x, .int .i64 z, .int .i64 p]
def mostG (b l s : Int) : Int := 3 * l * (b - s - 6) / 2
def snapsG (b y n : Int) : Int := (6 * n + 10 * b + (y - 1)) / y
/-- what may be told of a geometry ahead of its sectors and its snapshot -/
def PreG (b l y n s r : Int) : Prop := 8 ≤ b ∧ b ≤ 64 ∧ 6 ≤ l ∧ l ≤ 64 ∧ 16 ≤ y ∧ y ≤ 256 ∧ y % 8 = 0 ∧ 0 ≤ s ∧ s ≤ 16 ∧ s ≤ b - 8 ∧ 2 ≤ r ∧ r ≤ 1000 ∧ 1 ≤ n ∧ n ≤ 4096
def OkG (b l y n s r : Int) : Prop := PreG b l y n s r ∧ n ≤ mostG b l s ∧ snapsG b y n ≤ l - 4
instance (b l y n s r : Int) : Decidable (PreG b l y n s r) := by unfold PreG; infer_instance
instance (b l y n s r : Int) : Decidable (OkG b l y n s r) := by unfold OkG; infer_instance
def chkG (b l y n s r : Int) : Int := if OkG b l y n s r then 0 else 60
def HasG (b l x z p : Int) : Prop := 0 ≤ x ∧ x < b ∧ 0 ≤ z ∧ z < l ∧ 0 ≤ p ∧ p < 3
instance (b l x z p : Int) : Decidable (HasG b l x z p) := by unfold HasG; infer_instance
/-- bounds of a product, for a walk that meets it -/
theorem mul_bd {a c A C : Int} (h0 : 0 ≤ a) (h1 : a ≤ A) (h2 : 0 ≤ c) (h3 : c ≤ C) : 0 ≤ a * c ∧ a * c ≤ A * C :=
  ⟨Int.mul_nonneg h0 h2, Int.mul_le_mul h1 h3 h2 (by omega)⟩
theorem pre_most {b l y n s r : Int} (h : PreG b l y n s r) : 0 ≤ 3 * l * (b - s - 6) ∧ 3 * l * (b - s - 6) ≤ 12000 := by
  obtain ⟨h1, h2, h3, h4, h5, h6, h7, h8, h9, h10, h11, h12, h13, h14⟩ := h
  have := mul_bd (a := 3 * l) (c := b - s - 6) (A := 192) (C := 58) (by omega) (by omega) (by omega) (by omega)
  omega
/-- so many pages are enough, and no fewer -/
theorem snaps_iff {b y n : Int} (hy : 1 ≤ y) (k : Int) : k * y < 6 * n + 10 * b ↔ k < snapsG b y n := by
  unfold snapsG
  constructor
  · intro h
    have : k + 1 ≤ (6 * n + 10 * b + (y - 1)) / y := by
      rw [Int.le_ediv_iff_mul_le (by omega), Int.add_mul]
      omega
    omega
  · intro h
    have h2 : k + 1 ≤ (6 * n + 10 * b + (y - 1)) / y := by omega
    rw [Int.le_ediv_iff_mul_le (by omega), Int.add_mul] at h2
    omega
theorem snaps_bd {b l y n s r : Int} (h : PreG b l y n s r) : 1 ≤ snapsG b y n ∧ snapsG b y n ≤ 1600 := by
  obtain ⟨h1, h2, h3, h4, h5, h6, h7, h8, h9, h10, h11, h12, h13, h14⟩ := h
  constructor
  · have := (snaps_iff (b := b) (y := y) (n := n) (by omega) 0).1 (by omega)
    omega
  · have h : ¬ 1600 < snapsG b y n := by
      intro hc
      have := (snaps_iff (b := b) (y := y) (n := n) (by omega) 1600).2 hc
      omega
    omega
end Go.Proofs.YtidakannaephoaaDoor

/- Plain arithmetic for layer 1: powers of two, single bits, the lowest bits of a number, its sign in so many bits, and bits turned round in 64. No Go in sight. -/
namespace Go.Proofs.YtidakannaephoaaDoor
open Go.RowKit

def p2 (k : Nat) : Int := 2 ^ k
theorem p2_zero : p2 0 = 1 := rfl
theorem p2_succ (k : Nat) : p2 (k + 1) = p2 k * 2 := Int.pow_succ 2 k
theorem p2_add (a b : Nat) : p2 (a + b) = p2 a * p2 b := Int.pow_add 2 a b
theorem p2_pos (k : Nat) : 0 < p2 k := Int.pow_pos (by decide)
theorem p2_64 : p2 64 = 18446744073709551616 := by decide
theorem p2_le {a b : Nat} (h : a ≤ b) : p2 a ≤ p2 b := by
  obtain ⟨c, rfl⟩ := Nat.exists_eq_add_of_le h
  rw [p2_add]
  have h1 := p2_pos a
  have h2 := p2_pos c
  have h3 : p2 a * 1 ≤ p2 a * p2 c := Int.mul_le_mul_of_nonneg_left (by omega) (by omega)
  omega
def lo (v : Int) (k : Nat) : Int := v % p2 k
theorem lo_all (v : Int) (k : Nat) (h0 : 0 ≤ v) (h1 : v < p2 k) : lo v k = v := Int.emod_eq_of_lt h0 h1
theorem wrap_lo (v : Int) : IntKind.u64.wrap v = lo v 64 := by rw [IntKind.wrap_u64]; unfold lo; rw [p2_64]
/-! bits turned round in 64 -/
/-- so many bits, each at its new place -/
def turned (v : Int) (a m : Nat) : Int := if m ≤ 64 - a then lo v m * p2 a else lo v (64 - a) * p2 a + lo v m / p2 (64 - a)
theorem nat_or_add (q y a : Nat) (hy : y < 2 ^ a) : 2 ^ a * q ||| y = 2 ^ a * q + y := by
  rw [Nat.mul_comm, ← Nat.shiftLeft_eq, Nat.shiftLeft_add_eq_or_of_lt hy]
theorem or_add (x y : Int) (a : Nat) (ha : a ≤ 64) (hx : x % p2 a = 0) (hx0 : 0 ≤ x) (hx1 : x < p2 64) (hy0 : 0 ≤ y) (hy1 : y < p2 a) : bits .or .u64 x y = x + y := by
  have hle := p2_le ha
  have h64 := p2_64
  obtain ⟨x, rfl⟩ := Int.eq_ofNat_of_zero_le hx0
  obtain ⟨y, rfl⟩ := Int.eq_ofNat_of_zero_le hy0
  have hpa : p2 a = ((2 ^ a : Nat) : Int) := (Int.natCast_pow 2 a).symm
  rw [bits_or_u64_nat x y (by omega) (by omega)]
  rw [hpa] at hx hy1
  have hxm : x % 2 ^ a = 0 := by exact_mod_cast hx
  have hym : y < 2 ^ a := by exact_mod_cast hy1
  have hd : 2 ^ a * (x / 2 ^ a) = x := by have := Nat.mod_add_div x (2 ^ a); omega
  have h := nat_or_add (x / 2 ^ a) y a hym
  rw [hd] at h
  rw [h]; exact Int.natCast_add _ _

end Go.Proofs.YtidakannaephoaaDoor

/- The reference of layer 1, as far as later layers lean on it: Put, Get. -/
namespace Go.Proofs.YtidakannaephoaaDoor
open Go.RowKit

/-- a number's n lowest bytes, the lowest first -/
def le : Int → Nat → List UInt8
  | _, 0 => []
  | v, n + 1 => UInt8.ofNat (v % 256).toNat :: le (v / 256) n
theorem le_length (n : Nat) : ∀ v, (le v n).length = n := by
  induction n with
  | zero => intro v; rfl
  | succ n ih => intro v; simp [le, ih]
def leS (v : Int) (n : Nat) : ByteArray := ⟨(le v n).toArray⟩

/-- what is left of a number when k bytes are taken -/
def rest : Int → Nat → Int
  | v, 0 => v
  | v, k + 1 => rest v k / 256
/-- its k lowest bytes, as numbers -/
def leI : Int → Nat → List Int
  | _, 0 => []
  | v, k + 1 => leI v k ++ [rest v k % 256]
theorem rest_bd (v : Int) (k : Nat) (h0 : 0 ≤ v) (h1 : v < 18446744073709551616) : 0 ≤ rest v k ∧ rest v k < 18446744073709551616 := by
  induction k with
  | zero => exact ⟨h0, h1⟩
  | succ k ih => simp only [rest]; omega
theorem rest_shift (k : Nat) : ∀ v, rest v (k + 1) = rest (v / 256) k := by
  induction k with
  | zero => intro v; rfl
  | succ k ih => intro v; show rest v (k + 1) / 256 = rest (v / 256) k / 256; rw [ih]
theorem leI_shift (k : Nat) : ∀ v, leI v (k + 1) = v % 256 :: leI (v / 256) k := by
  induction k with
  | zero => intro v; rfl
  | succ k ih => intro v; show leI v (k + 1) ++ [rest v (k + 1) % 256] = _; rw [ih, rest_shift]; rfl
theorem leI_le (k : Nat) : ∀ v, (leI v k).map (fun n => UInt8.ofNat n.toNat) = le v k := by
  induction k with
  | zero => intro v; rfl
  | succ k ih => intro v; rw [leI_shift, le, List.map_cons, ih]
theorem bytes_eq {a b : ByteArray} (h : a.data.toList = b.data.toList) : a = b := by
  cases a; cases b
  simp only at h
  congr 1
  exact Array.toList_inj.1 h
theorem rest_p2 (v : Int) (k : Nat) : rest v k = v / p2 (8 * k) := by
  induction k with
  | zero => show v = v / p2 0; rw [p2_zero]; omega
  | succ k ih =>
    show rest v k / 256 = _
    rw [ih, show 8 * (k + 1) = 8 * k + 8 by omega, p2_add, show p2 8 = 256 from rfl, Int.ediv_ediv_of_nonneg (by have := p2_pos (8 * k); omega)]

theorem rel_put {w wr w1 : World} {v v' : Int} {b : Value} {k : Nat} (ho : w1.ownsRow w.heap.size 5 1 b (k + 1) ((leI v k).map (Value.int .u8) ++ [.int .u8 v'])) (hv : v' = rest v k % 256)
    (hb : Below w.heap.size w wr) (hg : Below w.heap.size wr w1) :
    w1.ownsRow w.heap.size 5 1 b (k + 1) ((leI v (k + 1)).map (Value.int .u8)) ∧ Below w.heap.size w w1 := by
  refine ⟨?_, hb.trans hg⟩
  simpa [leI, hv] using ho

/-- the post of the reference's Put: the bytes, or nothing -/
def putRes (v : Int) (n : Nat) : Array Value := if rest v n = 0 then #[.string (leS v n), .int .i64 0] else #[.string ByteArray.empty, .int .i64 1]
def PutPost (v : Int) (n : Nat) (w : World) (e : Ending) (w' : World) : Prop := e = .returned (.tuple (putRes v n)) ∧ Below w.heap.size w w'

theorem Tryd.info5 : (Tryd.prog.info? 5).map (fun i => (i.zero, i.size, i.bytes)) = some (some (.int .u8 0), 1, 1) := by kernel_rfl

set_option maxRecDepth 100000 in
theorem rput_any (v : Int) (n : Nat) (w : World) (h1 : 1 ≤ n) (h2 : n ≤ 8) (v0 : 0 ≤ v) (v1 : v < 18446744073709551616) :
    Calls Tryd.prog 39 #[.int .u64 v, .int .i64 n] w (PutPost v n w) := by
  obtain ⟨i0, hi, hz0, hz1, hz2⟩ := info_parts Tryd.info5
  go_enter Tryd.func39, Tryd.ntmps39
  go_wp2
  go_loopw [0, 6, 7] (fun x b i wr => ∃ k : Nat, k ≤ n ∧ i = .int .i64 k ∧ x = .int .u64 (rest v k) ∧ wr.ownsRow w.heap.size 5 1 b k ((leI v k).map (Value.int .u8)) ∧ Below w.heap.size w wr) (fun _ _ i _ => n - (intOf i).toNat)
  case atStart => exact ⟨0, Nat.zero_le _, rfl, rfl, ⟨rfl, Or.inl ⟨rfl, rfl⟩⟩, Below.refl _ _⟩
  case round =>
    obtain ⟨k, hk, rfl, rfl, hown, hb⟩ := hrel
    have hr := rest_bd v k v0 v1
    by_cases hlt : k < n
    · go_wp2_with (at_builtin; refine wpList_append_own _ rfl _ _ 46 rfl w.heap.size 5 i0 (.int .u8 0) 1 1 Tryd.underlying46 hi hz0 hz1 hz2 rfl (by decide) _ _ _ rfl (hown.alloc _) ⟨wr.heap.size, 0, none⟩ 1 1 [.int .u8 (rest v k % 256)] rfl rfl ?c1 ?c2 ?c3 ?c4 ?c5 ?_)
      case c1 => exact cell_one_new _ _ _
      case c2 => intro u hu; simp at hu; subst hu; rfl
      case c3 => unfold maxLen; omega
      case c4 => omega
      case c5 => have := hb.size; simp; omega
      intro v' w1 hown1 hgrow _
      have hbw : Below w.heap.size wr w1 := by
        refine Below.grown (row := u6.ownBlock) ((Below.refl _ _).alloc hb.size _) hgrow (by have := hb.size; simp; omega) ?_
        intro g hg
        exact hown.2.elim (fun h => by rw [h.1] at hg; simp [Value.ownBlock] at hg) (fun ⟨g', _, _, h, hge, _⟩ => by rw [h] at hg; simp [Value.ownBlock] at hg; omega)
      have HR := Lib.hid (rel_put hown1 rfl hb hbw)
      clear hown1 hgrow hbw hown
      go_wp2
      go_roundw
      case rel => exact ⟨k + 1, by omega, by go_num, rfl, HR.out.1, HR.out.2⟩
      case measure => simp [intOf]; omega
    · obtain rfl : k = n := by omega
      have hcv := conv_owned (P := Tryd.prog) (src := 46) (e := 5) (dst := 9) Tryd.underlying46 Tryd.underlying5 Tryd.underlying9 hown
      have HS : Hid (strOfNums (leI v k) = leS v k) := strOfNums_eq _ _ (leI_le k v)
      have hbw := Lib.hid hb
      clear hb hown
      by_cases hz : rest v k = 0
      · have HP : Hid (putRes v k = #[.string (leS v k), .int .i64 0]) := if_pos hz
        go_wp2
        go_ret2
        exact ⟨ret_tup (by rw [HP.out, ← HS.out]; rfl), hbw.out⟩
      · have HP : Hid (putRes v k = #[.string ByteArray.empty, .int .i64 1]) := if_neg hz
        have hpos : 0 < rest v k := by omega
        go_wp2
        go_ret2
        exact ⟨ret_tup (by rw [HP.out]; rfl), hbw.out⟩

/-- the number whose bytes these are, the lowest first -/
def num : List UInt8 → Int
  | [] => 0
  | b :: l => (b.toNat : Int) + 256 * num l
theorem num_bd (l : List UInt8) : 0 ≤ num l ∧ num l < p2 (8 * l.length) := by
  induction l with
  | nil => exact ⟨Int.le_refl 0, by decide⟩
  | cons b l ih =>
    have hb : b.toNat < 256 := b.toNat_lt
    have e : p2 (8 * (b :: l).length) = 256 * p2 (8 * l.length) := by
      rw [List.length_cons, show 8 * (l.length + 1) = 8 + 8 * l.length by omega, p2_add]; rfl
    rw [e]; simp only [num]; omega
theorem num_snoc (b : UInt8) : ∀ l, num (l ++ [b]) = num l + (b.toNat : Int) * p2 (8 * l.length) := by
  intro l
  induction l with
  | nil => simp [num, p2_zero]
  | cons c l ih =>
    have e : p2 (8 * (c :: l).length) = 256 * p2 (8 * l.length) := by
      rw [List.length_cons, show 8 * (l.length + 1) = 8 + 8 * l.length by omega, p2_add]; rfl
    show (c.toNat : Int) + 256 * num (l ++ [b]) = (c.toNat : Int) + 256 * num l + (b.toNat : Int) * p2 (8 * (c :: l).length)
    rw [ih, e, Int.mul_add, Int.mul_left_comm]; omega
theorem take_snoc (s : ByteArray) (k : Nat) (h : k < s.size) : s.data.toList.take (k + 1) = s.data.toList.take k ++ [s[k]] := by
  rw [List.take_succ_eq_append_getElem (by simpa using h)]; rfl
theorem take_len (s : ByteArray) (k : Nat) (h : k ≤ s.size) : (s.data.toList.take k).length = k := by
  rw [List.length_take]; have : s.data.toList.length = s.size := by simp
  omega
def numTo (s : ByteArray) (k : Nat) : Int := num (s.data.toList.take k)
theorem numTo_zero (s : ByteArray) : numTo s 0 = 0 := rfl
theorem numTo_bd (s : ByteArray) (k : Nat) (h : k ≤ s.size) : 0 ≤ numTo s k ∧ numTo s k < p2 (8 * k) := by
  have := num_bd (s.data.toList.take k); rwa [take_len s k h] at this
theorem numTo_succ (s : ByteArray) (k : Nat) (h : k < s.size) : numTo s (k + 1) = numTo s k + (s[k].toNat : Int) * p2 (8 * k) := by
  unfold numTo; rw [take_snoc s k h, num_snoc, take_len s k (by omega)]
theorem byte_room (c : UInt8) (k : Nat) (h : k < 8) : (c.toNat : Int) * p2 (8 * k) < p2 64 ∧ 0 ≤ (c.toNat : Int) * p2 (8 * k) := by
  have hb : c.toNat < 256 := c.toNat_lt
  have hp := p2_pos (8 * k)
  have h1 : (c.toNat : Int) * p2 (8 * k) < 256 * p2 (8 * k) := Int.mul_lt_mul_of_pos_right (by omega) hp
  have h2 : 256 * p2 (8 * k) ≤ p2 64 := by
    have : p2 (8 + 8 * k) ≤ p2 64 := p2_le (by omega)
    rwa [p2_add] at this
  exact ⟨by omega, Int.mul_nonneg (by omega) (by omega)⟩
theorem wrap_byte (c : UInt8) : IntKind.u64.wrap (c.toNat : Int) = c.toNat := by
  have hb : c.toNat < 256 := c.toNat_lt
  rw [IntKind.wrap_u64]; omega
/-- the place's power of 256, as it is kept in 64 bits -/
def pp (k : Nat) : Int := lo (p2 (8 * k)) 64
theorem pp_zero : pp 0 = 1 := by decide
theorem pp_succ (k : Nat) : IntKind.u64.wrap (pp k * 256) = pp (k + 1) := by
  unfold pp; rw [wrap_lo]
  unfold lo
  rw [Int.mul_emod, Int.emod_emod_of_dvd _ (Int.dvd_refl _), ← Int.mul_emod, show 8 * (k + 1) = 8 * k + 8 by omega, p2_add]; rfl
theorem rget_step (s : ByteArray) (k : Nat) (h : k < s.size) (hs : k < 8) :
    IntKind.u64.wrap (numTo s k + IntKind.u64.wrap (IntKind.u64.wrap (s[k].toNat : Int) * pp k)) = numTo s (k + 1) := by
  have hb := numTo_bd s k (by omega)
  have hb2 := numTo_bd s (k + 1) (by omega)
  have hr := byte_room s[k] k hs
  have hp : pp k = p2 (8 * k) := lo_all _ _ (by have := p2_pos (8 * k); omega) (by
    have h1 : p2 (8 * k) < p2 (8 * k) * 2 := by have := p2_pos (8 * k); omega
    rw [← p2_succ] at h1
    have h2 : p2 (8 * k + 1) ≤ p2 64 := p2_le (by omega)
    omega)
  have h64 : p2 (8 * (k + 1)) ≤ p2 64 := p2_le (by omega)
  rw [numTo_succ s k h] at *
  rw [hp, wrap_byte, wrap_lo (_ * _), lo_all _ 64 hr.2 hr.1, wrap_lo, lo_all _ 64 (by omega) (by omega)]
def numS (s : ByteArray) : Int := numTo s s.size

theorem rget_yes (s : ByteArray) (w : World) (h1 : 1 ≤ s.size) (h2 : s.size ≤ 8) :
    Calls Tryd.prog 43 #[.string s] w fun e w' => e = .returned (.tuple #[.int .u64 (numS s), .int .i64 0]) ∧ w = w' := by
  go_enter Tryd.func43, Tryd.ntmps43
  go_wp2
  go_loop [4, 5, 6] (fun t p i => ∃ k : Nat, k ≤ s.size ∧ i = .int .i64 k ∧ t = .int .u64 (numTo s k) ∧ p = .int .u64 (pp k)) (fun _ _ i => s.size - (intOf i).toNat)
  case atStart => exact ⟨0, Nat.zero_le _, rfl, by rw [numTo_zero], by rw [pp_zero]⟩
  case round =>
    obtain ⟨k, hk, rfl, rfl, rfl⟩ := hrel
    by_cases hlt : k < s.size
    · have HG := Lib.hid (rget_step s k hlt (by omega))
      have HP := Lib.hid (pp_succ k)
      go_wp2
      go_round
      case rel => exact ⟨k + 1, by omega, by go_num, by rw [← HG.out], by rw [← HP.out]⟩
      case measure => simp [intOf]; omega
    · obtain rfl : k = s.size := by omega
      go_wp2
      go_ret2
      exact ⟨rfl, rfl⟩

theorem rput_fit (v : Int) (n : Nat) (w : World) (h1 : 1 ≤ n) (h2 : n ≤ 8) (v0 : 0 ≤ v) (v1 : v < p2 (8 * n)) :
    Calls Tryd.prog 39 #[.int .u64 v, .int .i64 n] w fun e w' => e = .returned (.tuple #[.string (leS v n), .int .i64 0]) ∧ Below w.heap.size w w' := by
  have h64 : p2 (8 * n) ≤ p2 64 := p2_le (by omega)
  rw [p2_64] at h64
  have h := rput_any v n w h1 h2 v0 (by omega)
  have hr : rest v n = 0 := by rw [rest_p2]; exact Int.ediv_eq_zero_of_lt v0 v1
  unfold PutPost putRes at h
  rwa [if_pos hr] at h
theorem num_le (m : Nat) : ∀ v : Int, num (le v m) + p2 (8 * m) * rest v m = v := by
  induction m with
  | zero => intro v; show (0 : Int) + p2 0 * v = v; rw [p2_zero]; omega
  | succ m ih =>
    intro v
    have h := ih (v / 256)
    have hb : (UInt8.ofNat (v % 256).toNat).toNat = (v % 256).toNat := by
      rw [UInt8.toNat_ofNat']; omega
    show ((UInt8.ofNat (v % 256).toNat).toNat : Int) + 256 * num (le (v / 256) m) + p2 (8 * (m + 1)) * rest v (m + 1) = v
    rw [hb, rest_shift, show 8 * (m + 1) = 8 + 8 * m by omega, p2_add, show p2 8 = 256 from rfl, Int.mul_assoc]
    omega
theorem le_num : ∀ l : List UInt8, le (num l) l.length = l
  | [] => rfl
  | b :: l => by
    have hb : b.toNat < 256 := b.toNat_lt
    have e1 : (num (b :: l) % 256).toNat = b.toNat := by simp only [num]; omega
    have e2 : num (b :: l) / 256 = num l := by simp only [num]; omega
    rw [List.length_cons, le, e1, e2, le_num l, UInt8.ofNat_toNat]
theorem size_toList (s : ByteArray) : s.data.toList.length = s.size := by simp
theorem numS_eq (s : ByteArray) : numS s = num s.data.toList := by
  unfold numS numTo
  rw [List.take_of_length_le (by rw [size_toList]; omega)]
theorem leS_numS (s : ByteArray) : leS (numS s) s.size = s := by
  unfold leS
  rw [numS_eq, ← size_toList s, le_num]
theorem leS_size (v : Int) (m : Nat) : (leS v m).size = m := by
  show (le v m).toArray.size = m
  rw [List.size_toArray, le_length]
theorem numS_leS (v : Int) (m : Nat) (h : rest v m = 0) : numS (leS v m) = v := by
  have h2 := num_le m v
  rw [h] at h2
  rw [numS_eq]
  show num (le v m) = v
  omega
end Go.Proofs.YtidakannaephoaaDoor

/- Tags and their bytes: what the document asks of Encode, Decode and May, and what follows from it. -/
namespace Go.Proofs.YtidakannaephoaaDoor
open Go.RowKit

/-- a tag that may be -/
def MayT (k l q e : Int) : Prop := 1 ≤ k ∧ k ≤ 4 ∧ 0 ≤ l ∧ l ≤ 4096 ∧ 0 ≤ q ∧ q ≤ 281474976710655 ∧ 0 ≤ e ∧ e ≤ 4294967295
instance (k l q e : Int) : Decidable (MayT k l q e) := by unfold MayT; infer_instance
def byteT (s : ByteArray) (i : Nat) : Int := ((s.data.toList.getD i 0).toNat : Int)
def lT (s : ByteArray) : Int := numS (s.extract 2 4)
def qT (s : ByteArray) : Int := numS (s.extract 4 10)
def eT (s : ByteArray) : Int := numS (s.extract 10 14)
/-- a text that is a tag's bytes -/
def FormT (s : ByteArray) : Prop := s.size = 16 ∧ byteT s 0 = 27 ∧ byteT s 14 = 0 ∧ byteT s 15 = 0
def OkT (s : ByteArray) : Prop := FormT s ∧ MayT (byteT s 1) (lT s) (qT s) (eT s)
instance (s : ByteArray) : Decidable (FormT s) := by unfold FormT; infer_instance
instance (s : ByteArray) : Decidable (OkT s) := by unfold OkT; infer_instance
end Go.Proofs.YtidakannaephoaaDoor

/- A block of the call's own, whole: what a world holds in it, behind new blocks, calls, stores. -/
namespace Go.Proofs.YtidakannaephoaaDoor
open Go.RowKit

/-- block b holds these cells, and may be written -/
def Blk (w : World) (b : Nat) (cs : Array Value) (t : TypeId) : Prop := w.heap[b]? = some (.cells cs t (0, 0))
theorem Blk.lt {w : World} {b : Nat} {cs : Array Value} {t : TypeId} (h : Blk w b cs t) : b < w.heap.size := (Array.getElem?_eq_some_iff.1 h).1
theorem Blk.new (w : World) (cs : Array Value) (t : TypeId) : Blk (w.alloc (.cells cs t)) w.heap.size cs t := heap_alloc_new _ _
theorem Blk.alloc {w : World} {b : Nat} {cs : Array Value} {t : TypeId} (h : Blk w b cs t) (o : Obj) : Blk (w.alloc o) b cs t := by
  have hb := h.lt
  unfold Blk at *
  (first | rw [heap_alloc_old _ _ hb] | rw [heap_alloc_old _ _ _ hb]); exact h
theorem Blk.drew {w : World} {b : Nat} {cs : Array Value} {t : TypeId} (h : Blk w b cs t) : Blk w.drew b cs t := h
theorem Blk.drewN {w : World} {b n : Nat} {cs : Array Value} {t : TypeId} (h : Blk w b cs t) : Blk (w.drewN n) b cs t := h
theorem Blk.below {w w' : World} {b B : Nat} {cs : Array Value} {t : TypeId} (h : Blk w b cs t) (hb : Below B w w') (hB : b < B) : Blk w' b cs t := by
  unfold Blk at *
  rw [hb.block b hB]; exact h
theorem Blk.after {w w' : World} {b : Nat} {cs : Array Value} {t : TypeId} (h : Blk w b cs t) (hb : Below w.heap.size w w') : Blk w' b cs t := h.below hb h.lt
theorem Blk.cell {w : World} {b : Nat} {cs : Array Value} {t : TypeId} (h : Blk w b cs t) (i : Nat) : w.cell? ⟨b, i, none⟩ = cs[i]? := by
  unfold Blk at h; simp [World.cell?, h]
theorem Blk.free {w : World} {b : Nat} {cs : Array Value} {t : TypeId} (h : Blk w b cs t) (i : Nat) : w.frozen? ⟨b, i, none⟩ = false := by
  unfold Blk at h; simp [World.frozen?, h]
theorem Blk.set {w : World} {b : Nat} {cs ds : Array Value} {t : TypeId} (h : Blk w b cs t) (i : Nat) (v : Value) (he : cs.setIfInBounds i v = ds) : Blk (w.setCell ⟨b, i, none⟩ v) b ds t := by
  unfold Blk at *
  rw [heap_setCell_same _ _ _ _ _ _ h, he]
theorem Blk.set_other {w : World} {b c : Nat} {cs : Array Value} {t : TypeId} (h : Blk w b cs t) (hne : c ≠ b) (i : Nat) (v : Value) : Blk (w.setCell ⟨c, i, none⟩ v) b cs t := by
  unfold Blk at *
  rw [Below.heap_setCell _ _ _ _ (Ne.symm hne)]; exact h
theorem Blk.put {w : World} {b : Nat} {cs : Array Value} {t : TypeId} (h : Blk w b cs t) (ds : Array Value) : Blk (w.setRow b ds) b ds t := by
  unfold Blk at *
  exact setRow_heap w b cs ds _ _ h
theorem Blk.put_other {w : World} {b c : Nat} {cs : Array Value} {t : TypeId} (h : Blk w b cs t) (hne : c ≠ b) (ds : Array Value) : Blk (w.setRow c ds) b cs t := by
  unfold Blk at *
  simp only [World.setRow, Array.getElem?_modify]
  rw [if_neg hne]; exact h
theorem below_put {B g : Nat} {a w : World} (hB : B ≤ g) (cs : Array Value) (h : Below B a w) : Below B a (w.setRow g cs) := by
  have hk : ∀ k, k < B → (w.setRow g cs).heap[k]? = w.heap[k]? := by
    intro k hk
    simp only [World.setRow, Array.getElem?_modify]
    rw [if_neg (by omega)]
  obtain ⟨h1, h2, h3, h4, h5⟩ := h
  exact ⟨h1, h2, h3, by rw [size_setRow]; exact h4, fun k hk2 => by rw [hk k hk2]; exact h5 k hk2⟩

/-- a whole row out of a variable, at an operation that is guarded -/
theorem wpList_load_row_if {P : Program} {ops : Array Oper} {rest : List Oper} {o : Oper} {a : Act} {w : World} {Q : Exit → Act → World → Prop} (hw : Region.wanted o (yielded ops a.tmps) = true) (ty : TypeId) (x : Operand) (ho : o.op = .load ty x)
    (g : Nat) (hx : a.eval x = .pointer (some ⟨g, 0, none⟩)) (t : TypeId) (cs : Array Value) (fr : Nat × Nat) (d : TypeDesc) (hg : w.heap[g]? = some (.cells cs t fr))
    (hu : P.underlying ty = some d) (hd : (match d with | .struct _ | .array _ _ => true | _ => false) = true) (hi : (P.info? ty).map (·.size) = some cs.size)
    (h : wpList P ops Q rest (a.put o.dst (.agg cs)) w) : wpList P ops Q (o :: rest) a w := by
  unfold wpList
  rw [if_pos hw]
  exact Or.inl (wp_load_row ty x ho g hx t cs fr d hg hu hd hi h)

/-- what a function of two results gives, the first in a block of its own -/
theorem results_cell_tmp {P : Program} {fn : Func} {p q : Tmp} {ty : TypeId} (h : fn.results = #[.cell p ty, .tmp q]) (tmps : Array Value) (w : World) (g : Nat) (t : TypeId) (cs : Array Value) (d : TypeDesc)
    (hp : tmps.getD p undef = .pointer (some ⟨g, 0, none⟩)) (hg : Blk w g cs t)
    (hu : P.underlying ty = some d) (hd : (match d with | .struct _ | .array _ _ => true | _ => false) = true) (hi : (P.info? ty).map (·.size) = some cs.size) :
    (results fn tmps).run P w = .ok (.tuple #[.agg cs, tmps.getD q undef]) w := by
  have hp' : tmps[p]?.getD undef = .pointer (some ⟨g, 0, none⟩) := by simpa using hp
  simp [results, h, hp', asAddr, run_loadVar_row w g t ty cs (0, 0) d hg hu hd hi]

end Go.Proofs.YtidakannaephoaaDoor

/- What several layers share: a text's bytes, a row that the call owns and grew, the byte type's entry. -/
namespace Go.Proofs.YtidakannaephoaaDoor
open Go.RowKit

def bs (s : ByteArray) : List UInt8 := s.data.toList
theorem bs_length (s : ByteArray) : (bs s).length = s.size := by simp [bs]
end Go.Proofs.YtidakannaephoaaDoor

/- What is durable, and its pages: what the document asks of Fits, Put and Take. -/
namespace Go.Proofs.YtidakannaephoaaDoor
set_option maxRecDepth 100000
open Go.RowKit

/-- what is durable -/
structure Sn where
  f : List Int
  c : List Int
  s : List Int
  t : List Int
/-- a slice of numbers, wherever it lies -/
def IsAt (w : World) (oa : Option Addr) (l : List Int) : Prop := l ≠ [] → ∃ b off, oa = some ⟨b, off, none⟩ ∧ b < w.heap.size ∧ ∀ i (hi : i < l.length), w.cell? ⟨b, off + i, none⟩ = some (.int .i64 l[i])
theorem IsAt.below {w w' : World} {oa : Option Addr} {l : List Int} (h : IsAt w oa l) (hb : Below w.heap.size w w') : IsAt w' oa l := by
  intro hl
  obtain ⟨b, off, ho, hlt, hc⟩ := h hl
  exact ⟨b, off, ho, Nat.lt_of_lt_of_le hlt hb.size, fun i hi => by rw [World.cell?_of_block (w := w) (hb.block b hlt)]; exact hc i hi⟩
theorem IsAt.nil (w : World) (oa : Option Addr) : IsAt w oa [] := fun h => absurd rfl h
/-- as a value -/
def IvAt (w : World) (v : Value) (l : List Int) : Prop := ∃ (oa : Option Addr) (cap : Nat), v = .slice oa l.length cap ∧ (l.length ≤ cap ∧ cap ≤ maxLen) ∧ IsAt w oa l
theorem IvAt.below {w w' : World} {v : Value} {l : List Int} (h : IvAt w v l) (hb : Below w.heap.size w w') : IvAt w' v l := by
  obtain ⟨oa, cap, hv, hc, hk⟩ := h
  exact ⟨oa, cap, hv, hc, hk.below hb⟩
theorem IvAt.nil (w : World) : IvAt w (.slice none 0 0) [] := ⟨none, 0, rfl, ⟨Nat.zero_le _, Nat.zero_le _⟩, IsAt.nil _ _⟩
/-- four of them -/
def SnAt (w : World) (A : Array Value) (x : Sn) : Prop := ∃ vf vc vs vt, A = #[vf, vc, vs, vt] ∧ IvAt w vf x.f ∧ IvAt w vc x.c ∧ IvAt w vs x.s ∧ IvAt w vt x.t
theorem SnAt.below {w w' : World} {A : Array Value} {x : Sn} (h : SnAt w A x) (hb : Below w.heap.size w w') : SnAt w' A x := by
  obtain ⟨vf, vc, vs, vt, hA, h1, h2, h3, h4⟩ := h
  exact ⟨vf, vc, vs, vt, hA, h1.below hb, h2.below hb, h3.below hb, h4.below hb⟩

/-- so many numbers, each from 0 to this one -/
def InL (l : List Int) (n most : Int) : Prop := (l.length : Int) = n ∧ ∀ v ∈ l, 0 ≤ v ∧ v ≤ most
instance (l : List Int) (n most : Int) : Decidable (InL l n most) := by unfold InL; infer_instance
def inB (l : List Int) (n most : Int) : Bool := decide (InL l n most)
/-- does it fit a geometry of b blocks and n sectors? -/
def FitS (b n : Int) (x : Sn) : Prop := InL x.f n 281474976710655 ∧ InL x.c b 4294967295 ∧ InL x.s b 16777215 ∧ InL x.t b 16777215
instance (b n : Int) (x : Sn) : Decidable (FitS b n x) := by unfold FitS; infer_instance
/-- its bytes -/
def blkB (x : Sn) (i : Nat) : List UInt8 := le (x.c.getD i 0) 4 ++ (le (x.s.getD i 0) 3 ++ le (x.t.getD i 0) 3)
def secB (l : List Int) : List UInt8 := l.flatMap fun v => le v 6
def bytesN (x : Sn) : List UInt8 := secB x.f ++ (List.range x.c.length).flatMap (blkB x)
theorem secB_len (l : List Int) : (secB l).length = 6 * l.length := by
  unfold secB
  induction l with
  | nil => rfl
  | cons v r ih => rw [List.flatMap_cons, List.length_append, ih, le_length, List.length_cons]; omega
theorem blkB_len (x : Sn) (i : Nat) : (blkB x i).length = 10 := by unfold blkB; simp [le_length]
theorem blksB_len (x : Sn) (n : Nat) : ((List.range n).flatMap (blkB x)).length = 10 * n := by
  induction n with
  | zero => rfl
  | succ n ih => rw [List.range_succ, List.flatMap_append, List.length_append, ih]; simp [blkB_len]; omega
theorem bytesN_len (x : Sn) : (bytesN x).length = 6 * x.f.length + 10 * x.c.length := by unfold bytesN; rw [List.length_append, secB_len, blksB_len]
/-- with noughts behind them, on k pages of y bytes -/
def padN (x : Sn) (k y : Nat) : List UInt8 := bytesN x ++ List.replicate (k * y - (bytesN x).length) 0
def pageN (x : Sn) (k y i : Nat) : ByteArray := ⟨(((padN x k y).drop (i * y)).take y).toArray⟩
def pgsN (x : Sn) (k y : Nat) : List ByteArray := (List.range k).map (pageN x k y)
theorem pgsN_len (x : Sn) (k y : Nat) : (pgsN x k y).length = k := by simp [pgsN]

/-- what pages say: their text, one behind the other -/
def catP (l : List ByteArray) : ByteArray := l.foldl (· ++ ·) ByteArray.empty
def numAt (s : ByteArray) (i n : Nat) : Int := numS (s.extract i (i + n))
def ofText (s : ByteArray) (b n : Nat) : Sn :=
  ⟨(List.range n).map fun i => numAt s (6 * i) 6, (List.range b).map fun i => numAt s (6 * n + 10 * i) 4, (List.range b).map fun i => numAt s (6 * n + 10 * i + 4) 3, (List.range b).map fun i => numAt s (6 * n + 10 * i + 7) 3⟩
/-- are they such pages? -/
def PagesOk (l : List ByteArray) (b n k y : Nat) : Prop := l.length = k ∧ (∀ p ∈ l, p.size = y) ∧ ∀ i : Nat, 6 * n + 10 * b ≤ i → i < k * y → byteT (catP l) i = 0

end Go.Proofs.YtidakannaephoaaDoor

/- A region that draws its order, by a fact of each operation's value that stays true whatever comes after it: no order is looked at. -/
namespace Go.Proofs.YtidakannaephoaaDoor

section
variable {P : Program} {ops : Array Oper} {Q : Exit → Act → World → Prop} {md : Region.Mode}

/-- how many are still to come -/
def still (n : Nat) (listed : Array Bool) : Nat := ((List.range n).filter fun i => !listed.getD i true).length

theorem still_zero {n : Nat} {listed : Array Bool} (h : still n listed = 0) : ∀ i, i < n → listed.getD i true = true := by
  intro i hi
  have h2 : (List.range n).filter (fun i => !listed.getD i true) = [] := List.eq_nil_of_length_eq_zero h
  have h3 := List.filter_eq_nil_iff.1 h2 i (List.mem_range.2 hi)
  simpa using h3
theorem filter_less {α : Type} (l : List α) (p q : α → Bool) (hpq : ∀ x, x ∈ l → q x = true → p x = true) (x : α) (hx : x ∈ l) (hp : p x = true) (hq : q x = false) : (l.filter q).length < (l.filter p).length := by
  induction l with
  | nil => cases hx
  | cons y l ih =>
    have hle : (l.filter q).length ≤ (l.filter p).length := by
      clear ih hx
      induction l with
      | nil => exact Nat.le_refl _
      | cons z l ih2 =>
        have hz := hpq z (by simp)
        have ih3 := ih2 (fun x hx => hpq x (by simp at hx ⊢; rcases hx with h | h <;> simp [h]))
        cases hq' : q z with
        | true => simp [hq', hz hq']; exact ih3
        | false => cases hp' : p z <;> simp [hq', hp'] <;> omega
    rcases List.mem_cons.1 hx with rfl | hx
    · simp [hp, hq]; omega
    · have ih4 := ih (fun z hz => hpq z (List.mem_cons_of_mem _ hz)) hx
      cases hq' : q y with
      | true => simp [hq', hpq y (by simp) hq']; exact ih4
      | false => cases hp' : p y <;> simp [hq', hp'] <;> omega
theorem still_less {n i : Nat} {listed : Array Bool} (hi : i < n) (h : listed.getD i true = false) : still n (listed.setIfInBounds i true) < still n listed := by
  unfold still
  refine filter_less _ _ _ ?_ i (List.mem_range.2 hi) (by simp [h]) ?_
  · intro x _ hx
    by_cases e : i = x
    · subst e
      have hs : i < listed.size := by
        rcases Nat.lt_or_ge i listed.size with h' | h'
        · exact h'
        · simp [Array.getD, Nat.not_lt.2 h'] at h
      simp [Array.getD, hs] at hx
    · simp [getD_set_ne true e] at hx ⊢; exact hx
  · have hs : i < listed.size := by
      rcases Nat.lt_or_ge i listed.size with h' | h'
      · exact h'
      · simp [Array.getD, Nat.not_lt.2 h'] at h
    simp [Array.getD, hs]


/-- every operation waits for earlier ones alone, and has a temporary of its own -/
structure Plain (ops : Array Oper) (Base : Act → Prop) : Prop where
  before : ∀ (i : Nat) (o : Oper), ops[i]? = some o → ∀ e ∈ o.after, e.on < i
  own : ∀ (i : Nat) (o : Oper), ops[i]? = some o → ∃ d, o.dst = some d ∧ (∀ a, Base a → d < a.tmps.size) ∧ ∀ (j : Nat) (o' : Oper), ops[j]? = some o' → j ≠ i → ∃ d', o'.dst = some d' ∧ d ≠ d'

/-- a fact of each operation, one by one -/
def AllFrom (X : Nat → Oper → Prop) : Nat → List Oper → Prop
  | _, [] => True
  | k, o :: l => X k o ∧ AllFrom X (k + 1) l
theorem AllFrom.at {X : Nat → Oper → Prop} : ∀ {l : List Oper} {k : Nat}, AllFrom X k l → ∀ j o, l[j]? = some o → X (k + j) o
  | [], _, _, j, o, h => by simp at h
  | p :: l, k, h, 0, o, ho => by simp at ho; subst ho; exact h.1
  | p :: l, k, h, j + 1, o, ho => by
    have := AllFrom.at h.2 j o (by simpa using ho)
    rwa [show k + 1 + j = k + (j + 1) by omega] at this
theorem AllFrom.all {X : Nat → Oper → Prop} {l : List Oper} (h : AllFrom X 0 l) : ∀ (i : Nat) (o : Oper), l.toArray[i]? = some o → X i o := fun i o ho => by
  have := AllFrom.at h i o (by simpa using ho)
  rwa [Nat.zero_add] at this
end
end Go.Proofs.YtidakannaephoaaDoor

/- A region that draws its order, by facts of the frame and the world that each operation leaves, and that stay true whatever comes after it: no order is looked at; operations without a temporary (stores) too. -/
namespace Go.Proofs.YtidakannaephoaaDoor

section
variable {P : Program} {ops : Array Oper} {Q : Exit → Act → World → Prop} {md : Region.Mode}

theorem put_slot {a : Act} {d : Option Tmp} {v : Value} {s : Tmp} (h : ∀ x, d = some x → x ≠ s) : (a.put d v).tmps.getD s undef = a.tmps.getD s undef := by
  cases d with
  | none => rfl
  | some x => simp [Act.put, Array.getD_eq_getD_getElem?, Array.getElem?_setIfInBounds_ne (h x rfl)]

theorem wpAny_facts2 {Base : Act → Prop} {C : World → Prop} {T : World → World → Prop} {R : Nat → Act → World → Prop} {S : Nat → List Tmp}
    (hbefore : ∀ (i : Nat) (o : Oper), ops[i]? = some o → ∀ e ∈ o.after, Region.binds md e = true → e.on < i)
    (hslots : ∀ (i j : Nat) (o o' : Oper), ops[i]? = some o → ops[j]? = some o' → j ≠ i → (∀ e ∈ o'.after, Region.binds md e = true → e.on ≠ i) → ∀ d, o.dst = some d → d ∉ S j)
    (hext : ∀ j a a' w w', R j a w → (∀ s ∈ S j, a'.tmps.getD s undef = a.tmps.getD s undef) → T w w' → R j a' w')
    (hbase : ∀ (i : Nat) (o : Oper), ops[i]? = some o → ∀ a v, Base a → Base (a.put o.dst v))
    (hops : ∀ (i : Nat) (o : Oper), ops[i]? = some o → ∀ a w, C w → Base a → (∀ e ∈ o.after, Region.binds md e = true → R e.on a w) →
      wpOp P ops Q i (fun a' w' => ∃ v, a' = a.put o.dst v ∧ C w' ∧ T w w' ∧ R i a' w') a w)
    (hfin : ∀ a w, C w → Base a → (∀ i, i < ops.size → R i a w) → Q .normal a w) :
    ∀ (fuel : Nat) (listed : Array Bool) (a : Act) (w : World), still ops.size listed ≤ fuel → listed.size = ops.size → C w → Base a →
      (∀ i, i < ops.size → listed.getD i true = true → R i a w ∧ ∀ o, ops[i]? = some o → ∀ e ∈ o.after, Region.binds md e = true → listed.getD e.on true = true) → wpAny P md ops Q fuel listed a w := by
  have all : ∀ (listed : Array Bool), listed.size = ops.size → Region.ready md ops listed = [] → ∀ i, i < ops.size → listed.getD i true = true := by
    intro listed hsz hr i
    induction i using Nat.strongRecOn with
    | ind i ih =>
      intro hi
      cases hl : listed.getD i true with
      | true => rfl
      | false =>
        exfalso
        have hm : i ∈ Region.ready md ops listed := by
          rw [mem_ready]
          refine ⟨hl, ops[i], by simp [hi], fun e he hb => ?_⟩
          have hlt := hbefore i ops[i] (by simp [hi]) e he hb
          have h2 := ih e.on hlt (by omega)
          have h3 : e.on < listed.size := by omega
          simp [Array.getD, h3] at h2 ⊢
          exact h2
        rw [hr] at hm; cases hm
  intro fuel
  induction fuel with
  | zero =>
    intro listed a w hst hsz hC hB hR
    have hall := still_zero (Nat.le_zero.1 hst)
    have hr : Region.ready md ops listed = [] := by
      cases h : Region.ready md ops listed with
      | nil => rfl
      | cons i l =>
        have hm : i ∈ Region.ready md ops listed := by rw [h]; exact List.mem_cons_self
        obtain ⟨h1, o, ho, _⟩ := mem_ready.1 hm
        have hi : i < ops.size := (Array.getElem?_eq_some_iff.1 ho).1
        rw [hall i hi] at h1; cases h1
    exact ⟨hr, hfin a w hC hB fun i hi => (hR i hi (hall i hi)).1⟩
  | succ fuel ih =>
    intro listed a w hst hsz hC hB hR
    refine ⟨fun hr => hfin a w hC hB fun i hi => (hR i hi (all listed hsz hr i hi)).1, fun i hi => ?_⟩
    obtain ⟨h1, o, ho, hdeps⟩ := mem_ready.1 hi
    have hin : i < ops.size := (Array.getElem?_eq_some_iff.1 ho).1
    have hdl : ∀ e ∈ o.after, Region.binds md e = true → listed.getD e.on true = true := by
      intro e he hb
      have hlt := hbefore i o ho e he hb
      have h2 := hdeps e he hb
      have h3 : e.on < listed.size := by omega
      simp [Array.getD, h3] at h2 ⊢
      exact h2
    refine wpOp_mono ?_ (hops i o ho a w hC hB fun e he hb => (hR e.on (by have := hbefore i o ho e he hb; omega) (hdl e he hb)).1)
    rintro a' w' ⟨v, rfl, hC', hT, hRv⟩
    have hless := still_less hin h1
    have keep : ∀ k, listed.getD k true = true → (listed.setIfInBounds i true).getD k true = true := by
      intro k hk
      by_cases e : k = i
      · subst e
        have hs : k < listed.size := by omega
        simp [Array.getD, hs]
      · rw [getD_set_ne true (Ne.symm e)]; exact hk
    refine ih _ _ _ (by omega) (by simp [hsz]) hC' (hbase i o ho a v hB) fun j hj hlj => ?_
    by_cases e : j = i
    · subst e
      refine ⟨hRv, fun o' ho' e he hb => keep _ ?_⟩
      obtain rfl : o' = o := Option.some.inj (ho'.symm.trans ho)
      exact hdl e he hb
    · rw [getD_set_ne true (Ne.symm e)] at hlj
      obtain ⟨hRj, hdj⟩ := hR j hj hlj
      refine ⟨hext j a _ w w' hRj (fun s hs => put_slot fun x hx hxs => ?_) hT, fun o' ho' e he hb => keep _ (hdj o' ho' e he hb)⟩
      subst hxs
      refine hslots i j o ops[j] ho (by simp [hj]) e (fun e' he' hb' hne => ?_) x hx hs
      have := hdj ops[j] (by simp [hj]) e' he' hb'
      rw [hne, h1] at this; cases this

/-- the two conditions on the list, as a Bool -/
def planB (l : List Oper) (S : List (List Tmp)) : Bool :=
  (List.range l.length).all fun i => match l[i]? with
    | none => true
    | some o => (o.after.all fun e => !Region.binds .any e || decide (e.on < i)) && (match o.dst with
      | none => true
      | some d => (List.range l.length).all fun j => j == i || (match l[j]? with
        | some o' => (o'.after.any fun e => Region.binds .any e && e.on == i) || !(S.getD j []).contains d
        | none => true))
theorem if_yes {c : Bool} {A B : Prop} (h : c = true) (hA : A) : if c = true then A else B := by rw [if_pos h]; exact hA
theorem if_no {c : Bool} {A B : Prop} (h : c = false) (hB : B) : if c = true then A else B := by rw [h]; exact hB
/-- what an operation leaves: its slot written, the world in the class and gone on, its own fact -/
def Leaves (C : World → Prop) (T : World → World → Prop) (R : Nat → Act → World → Prop) (i : Nat) (o : Oper) (a : Act) (w : World) (a' : Act) (w' : World) : Prop := ∃ v, a' = a.put o.dst v ∧ C w' ∧ T w w' ∧ R i a' w'
/-- .. where operations may be guarded: an operation that is not wanted leaves its slot undefined -/
theorem wp_region_list3 {id : Nat} {l : List Oper} {a : Act} {w : World} (S : List (List Tmp)) (Base : Act → Prop) (C : World → Prop) (T : World → World → Prop) (R : Nat → Act → World → Prop) (hm : P.follows .mixedOrders = true)
    (hpl : planB l S = true) (hext : ∀ j a a' w w', R j a w → (∀ s ∈ S.getD j [], a'.tmps.getD s undef = a.tmps.getD s undef) → T w w' → R j a' w')
    (hbase : AllFrom (fun _ o => ∀ a v, Base a → Base (a.put o.dst v)) 0 l) (hC : C { w with drawn := w.drawn + 1 }) (hB : Base a)
    (hops : AllFrom (fun i o => ∀ a w, C w → Base a → (∀ e ∈ o.after, Region.binds .any e = true → R e.on a w) →
      if Region.wanted o (yielded l.toArray a.tmps) = true then o.wp P a w (Leaves C T R i o a w) Q
      else Leaves C T R i o a w (a.put o.dst undef) w) 0 l)
    (hfin : ∀ a w, C w → Base a → (∀ i, i < l.length → R i a w) → Q .normal a w) : (Code.region id l.toArray true).wp P Q a w := by
  have hp := List.all_eq_true.1 hpl
  refine wp_region_any hm (wpAny_facts2 (S := fun j => S.getD j []) (Base := Base) (C := C) (T := T) (R := R) ?_ ?_ hext hbase.all
    (fun i o ho a w h1 h2 h3 => ?_)
    (fun a w h1 h2 h3 => hfin a w h1 h2 fun i hi => h3 i (by simpa using hi)) _ _ _ _ ?_ (by simp) hC hB ?_)
  · intro i o ho e he hb
    have ho' : l[i]? = some o := by simpa using ho
    have h1 := hp i (List.mem_range.2 (List.getElem?_eq_some_iff.1 ho').1)
    simp only [ho', Bool.and_eq_true] at h1
    have h2 := (Array.all_eq_true_iff_forall_mem.1 h1.1) e he
    simpa [hb] using h2
  · intro i j o o' ho ho' hne hno d hd
    have hi : l[i]? = some o := by simpa using ho
    have hj : l[j]? = some o' := by simpa using ho'
    have h1 := hp i (List.mem_range.2 (List.getElem?_eq_some_iff.1 hi).1)
    simp only [hi, hd, Bool.and_eq_true] at h1
    have h2 := List.all_eq_true.1 h1.2 j (List.mem_range.2 (List.getElem?_eq_some_iff.1 hj).1)
    simp only [hj, Bool.or_eq_true, beq_iff_eq] at h2
    rcases h2 with h2 | h2 | h2
    · exact absurd h2 hne
    · obtain ⟨k, hk, hb⟩ := Array.any_eq_true.1 h2
      obtain ⟨e, he⟩ : ∃ e, e = o'.after[k] := ⟨_, rfl⟩
      rw [← he] at hb
      have he : e ∈ o'.after := by rw [he]; exact Array.getElem_mem hk
      simp only [Bool.and_eq_true, beq_iff_eq] at hb
      exact absurd hb.2 (hno e he hb.1)
    · intro hm
      simp at h2
      exact h2 hm
  · have h4 := hops.all i o ho a w h1 h2 h3
    unfold wpOp
    simp only [ho]
    by_cases hw : Region.wanted o (yielded l.toArray a.tmps) = true
    · rw [if_pos hw] at h4 ⊢
      exact Or.inl h4
    · rw [if_neg hw] at h4 ⊢
      exact h4
  · unfold still
    exact Nat.le_trans (List.length_filter_le _ _) (by simp)
  · intro i hi h
    have hi' : i < l.length := by simpa using hi
    simp [Array.getD] at h
    omega

end
end Go.Proofs.YtidakannaephoaaDoor
