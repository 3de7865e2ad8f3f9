/- Texts of one claim, merged: Kit, GeM, BitsM, Ref1P, TagM, Blk, Bs, SnM, Inv, Inv2, Reg, RcM, ShM, StM, ShR1, TagR, RcR, ShR2, ShR3, ShB, ShS, SnB. -/
import Derived.Test.YtgnjknboahcmgaaRows
import Derived.WalkKit
import Derived.ProofKit
import Derived.OpenShut
import Derived.Outline
import Derived.Lib.Hide
import Derived.WalkLawsBesides
import Derived.WalkSpells
import Derived.Handy
import Derived.Laws.BytesArg
import Derived.Laws.AppendOwn
import Derived.Lib.ConvBytes
import Derived.RowKit
import Derived.Laws.Bits64b
import Derived.Laws.BitsLemmas
import Derived.Deep.WholeRow
import Derived.Deep.OwnRows
import Derived.Orders
import Derived.Laws.StructEq
import Derived.Deep.MidRow
import Derived.OwnWalk
import Derived.Deep.RegionHeld3
import Derived.Deep.DeepCutAuto
import Derived.Deep.CutBlock
import Derived.Deep.QuietTactic
import Derived.BigQuiet
import Derived.LoopN

/- Small lemmas of no one stage: what a call returns, slices of bytes that the call owns, turned into a text. -/
namespace Go.Proofs.Ytgnjknboahcmgaa
open Go.RowKit

theorem ret_int {k : IntKind} {a b : Int} (h : a = b) : Ending.returned (.int k a) = .returned (.int k b) := by rw [h]
theorem ret_bool {a b : Bool} (h : a = b) : Ending.returned (.bool a) = .returned (.bool b) := by rw [h]
theorem ret_tup {a b : Array Value} (h : a = b) : Ending.returned (.tuple a) = .returned (.tuple b) := by rw [h]

theorem strOfNums_eq (xs : List Int) (l : List UInt8) (h : xs.map (fun n => UInt8.ofNat n.toNat) = l) : strOfNums xs = ⟨l.toArray⟩ := by unfold strOfNums; rw [h]

theorem cell_lt {w : World} {a : Addr} {v : Value} (h : w.cell? a = some v) : a.block < w.heap.size := by
  rcases Nat.lt_or_ge a.block w.heap.size with h2 | h2
  · exact h2
  · simp [World.cell?, Array.getElem?_eq_none h2] at h

/-- a slice of bytes that the call owns, as a text -/
theorem conv_owned {P : Program} {w : World} {src e dst : TypeId} (hs : P.underlying src = some (.slice e)) (he : P.underlying e = some (.int .u8)) (hd : P.underlying dst = some .string)
    {base : Nat} {v : Value} {n : Nat} {ns : List Int} (h : w.ownsRow base e 1 v n (ns.map (Value.int .u8))) :
    Sem.run P (convert src dst v) w = .ok (.string (strOfNums ns)) w := by
  obtain ⟨hl, h⟩ := h
  rcases h with ⟨rfl, rfl⟩ | ⟨g, cap, cur, rfl, _, hg, hc, _, hz, ht⟩
  · have hn : ns = [] := by simpa using hl
    subst hn
    rw [run_convert_bytes_nil w src e hs he 0 0 dst hd]; rfl
  · have hln : ns.length = n := by simpa using hl
    refine run_convert_bytes_arg w src e hs he g 0 n cap ns hln ?_ dst hd
    intro i hi
    rw [Nat.zero_add]
    have h1 : cur.toList[i]? = some (.int .u8 (ns.getD i 0)) := by
      have h2 : (cur.toList.take (n * 1))[i]? = cur.toList[i]? := List.getElem?_take_of_lt (by omega)
      rw [← h2, ht]
      have h3 : i < ns.length := by omega
      simp [List.getD, h3]
    simpa [World.cell?, hg] using h1

/-- the first cells of a block are these bytes -/
def BytesAt (w : World) (b : Nat) (ns : List Int) : Prop := ∀ i, i < ns.length → w.cell? ⟨b, i, none⟩ = some (.int .u8 (ns.getD i 0))
theorem BytesAt.drew {w : World} {b : Nat} {ns : List Int} (h : BytesAt w b ns) : BytesAt w.drew b ns := h
theorem BytesAt.set {w : World} {b : Nat} {ns : List Int} (h : BytesAt w b ns) (i : Nat) (x : Int) : BytesAt (w.setCell ⟨b, i, none⟩ (.int .u8 x)) b (ns.set i x) := by
  intro k hk
  have hk' : k < ns.length := by simpa using hk
  by_cases e : k = i
  · subst e
    rw [World.cell?_setCell_same w _ _ (h k hk')]
    simp [List.getD, hk']
  · have hne : (⟨b, i, none⟩ : Addr) ≠ ⟨b, k, none⟩ := fun h2 => e (congrArg Addr.off h2).symm
    rw [World.cell?_setCell_other w _ _ _ hne, h k hk']
    simp [List.getD, Ne.symm e]
theorem BytesAt.conv {P : Program} {w : World} {src e dst : TypeId} (hs : P.underlying src = some (.slice e)) (he : P.underlying e = some (.int .u8)) (hd : P.underlying dst = some .string)
    {b : Nat} {ns : List Int} (h : BytesAt w b ns) (n cap : Nat) (hn : ns.length = n) : Sem.run P (convert src dst (.slice (some ⟨b, 0, none⟩) n cap)) w = .ok (.string (strOfNums ns)) w := by
  refine run_convert_bytes_arg w src e hs he b 0 n cap ns hn ?_ dst hd
  intro i hi
  rw [Nat.zero_add]
  exact h i (by omega)

end Go.Proofs.Ytgnjknboahcmgaa

/- Geometries: what the document asks of Check, Snaps, Most, Raw, Bound, Spread, Number, At, and what follows from it. -/
namespace Go.Proofs.Ytgnjknboahcmgaa
set_option maxRecDepth 100000
open Go.RowKit

/-- a geometry's cells, and an address's -/
def gv (b l y n s r : Int) : Array Value := #[.int .i64 b, .int .i64 l, .int .i64 y, .int .i64 n, .int .i64 s, .int .i64 r]
theorem gv_one (b l y n s r : Int) : (gv b l y n s r).all (·.oneCell') = true := by
  rw [Array.all_eq_true_iff_forall_mem]
  intro v hv
  simp [gv] at hv
  rcases hv with rfl | rfl | rfl | rfl | rfl | rfl <;> rfl
def mostG (b l s : Int) : Int := 3 * l * (b - s - 6) / 2
def snapsG (b y n : Int) : Int := (6 * n + 10 * b + (y - 1)) / y
/-- what may be told of a geometry ahead of its sectors and its snapshot -/
def PreG (b l y n s r : Int) : Prop := 8 ≤ b ∧ b ≤ 64 ∧ 6 ≤ l ∧ l ≤ 64 ∧ 16 ≤ y ∧ y ≤ 256 ∧ y % 8 = 0 ∧ 0 ≤ s ∧ s ≤ 16 ∧ s ≤ b - 8 ∧ 2 ≤ r ∧ r ≤ 1000 ∧ 1 ≤ n ∧ n ≤ 4096
def OkG (b l y n s r : Int) : Prop := PreG b l y n s r ∧ n ≤ mostG b l s ∧ snapsG b y n ≤ l - 4
instance (b l y n s r : Int) : Decidable (PreG b l y n s r) := by unfold PreG; infer_instance
instance (b l y n s r : Int) : Decidable (OkG b l y n s r) := by unfold OkG; infer_instance
def chkG (b l y n s r : Int) : Int := if OkG b l y n s r then 0 else 60
def HasG (b l x z p : Int) : Prop := 0 ≤ x ∧ x < b ∧ 0 ≤ z ∧ z < l ∧ 0 ≤ p ∧ p < 3
instance (b l x z p : Int) : Decidable (HasG b l x z p) := by unfold HasG; infer_instance
/-- bounds of a product, for a walk that meets it -/
theorem mul_bd {a c A C : Int} (h0 : 0 ≤ a) (h1 : a ≤ A) (h2 : 0 ≤ c) (h3 : c ≤ C) : 0 ≤ a * c ∧ a * c ≤ A * C :=
  ⟨Int.mul_nonneg h0 h2, Int.mul_le_mul h1 h3 h2 (by omega)⟩
theorem pre_most {b l y n s r : Int} (h : PreG b l y n s r) : 0 ≤ 3 * l * (b - s - 6) ∧ 3 * l * (b - s - 6) ≤ 12000 := by
  obtain ⟨h1, h2, h3, h4, h5, h6, h7, h8, h9, h10, h11, h12, h13, h14⟩ := h
  have := mul_bd (a := 3 * l) (c := b - s - 6) (A := 192) (C := 58) (by omega) (by omega) (by omega) (by omega)
  omega
/-- so many pages are enough, and no fewer -/
theorem snaps_iff {b y n : Int} (hy : 1 ≤ y) (k : Int) : k * y < 6 * n + 10 * b ↔ k < snapsG b y n := by
  unfold snapsG
  constructor
  · intro h
    have : k + 1 ≤ (6 * n + 10 * b + (y - 1)) / y := by
      rw [Int.le_ediv_iff_mul_le (by omega), Int.add_mul]
      omega
    omega
  · intro h
    have h2 : k + 1 ≤ (6 * n + 10 * b + (y - 1)) / y := by omega
    rw [Int.le_ediv_iff_mul_le (by omega), Int.add_mul] at h2
    omega
theorem snaps_bd {b l y n s r : Int} (h : PreG b l y n s r) : 1 ≤ snapsG b y n ∧ snapsG b y n ≤ 1600 := by
  obtain ⟨h1, h2, h3, h4, h5, h6, h7, h8, h9, h10, h11, h12, h13, h14⟩ := h
  constructor
  · have := (snaps_iff (b := b) (y := y) (n := n) (by omega) 0).1 (by omega)
    omega
  · have h : ¬ 1600 < snapsG b y n := by
      intro hc
      have := (snaps_iff (b := b) (y := y) (n := n) (by omega) 1600).2 hc
      omega
    omega
end Go.Proofs.Ytgnjknboahcmgaa

/- Plain arithmetic for layer 1: powers of two, single bits, the lowest bits of a number, its sign in so many bits, and bits turned round in 64. No Go in sight. -/
namespace Go.Proofs.Ytgnjknboahcmgaa
open Go.RowKit

def p2 (k : Nat) : Int := 2 ^ k
theorem p2_zero : p2 0 = 1 := rfl
theorem p2_add (a b : Nat) : p2 (a + b) = p2 a * p2 b := Int.pow_add 2 a b
theorem p2_pos (k : Nat) : 0 < p2 k := Int.pow_pos (by decide)
theorem p2_64 : p2 64 = 18446744073709551616 := by decide
theorem p2_le {a b : Nat} (h : a ≤ b) : p2 a ≤ p2 b := by
  obtain ⟨c, rfl⟩ := Nat.exists_eq_add_of_le h
  rw [p2_add]
  have h1 := p2_pos a
  have h2 := p2_pos c
  have h3 : p2 a * 1 ≤ p2 a * p2 c := Int.mul_le_mul_of_nonneg_left (by omega) (by omega)
  omega
def lo (v : Int) (k : Nat) : Int := v % p2 k
/-! bits turned round in 64 -/
/-- so many bits, each at its new place -/
def turned (v : Int) (a m : Nat) : Int := if m ≤ 64 - a then lo v m * p2 a else lo v (64 - a) * p2 a + lo v m / p2 (64 - a)
end Go.Proofs.Ytgnjknboahcmgaa

/- The reference of layer 1, as far as later layers lean on it: Put, Get. -/
namespace Go.Proofs.Ytgnjknboahcmgaa
open Go.RowKit

/-- a number's n lowest bytes, the lowest first -/
def le : Int → Nat → List UInt8
  | _, 0 => []
  | v, n + 1 => UInt8.ofNat (v % 256).toNat :: le (v / 256) n
theorem le_length (n : Nat) : ∀ v, (le v n).length = n := by
  induction n with
  | zero => intro v; rfl
  | succ n ih => intro v; simp [le, ih]
def leS (v : Int) (n : Nat) : ByteArray := ⟨(le v n).toArray⟩

/-- what is left of a number when k bytes are taken -/
def rest : Int → Nat → Int
  | v, 0 => v
  | v, k + 1 => rest v k / 256
/-- its k lowest bytes, as numbers -/
def leI : Int → Nat → List Int
  | _, 0 => []
  | v, k + 1 => leI v k ++ [rest v k % 256]
theorem rest_bd (v : Int) (k : Nat) (h0 : 0 ≤ v) (h1 : v < 18446744073709551616) : 0 ≤ rest v k ∧ rest v k < 18446744073709551616 := by
  induction k with
  | zero => exact ⟨h0, h1⟩
  | succ k ih => simp only [rest]; omega
theorem rest_shift (k : Nat) : ∀ v, rest v (k + 1) = rest (v / 256) k := by
  induction k with
  | zero => intro v; rfl
  | succ k ih => intro v; show rest v (k + 1) / 256 = rest (v / 256) k / 256; rw [ih]
theorem leI_shift (k : Nat) : ∀ v, leI v (k + 1) = v % 256 :: leI (v / 256) k := by
  induction k with
  | zero => intro v; rfl
  | succ k ih => intro v; show leI v (k + 1) ++ [rest v (k + 1) % 256] = _; rw [ih, rest_shift]; rfl
theorem leI_le (k : Nat) : ∀ v, (leI v k).map (fun n => UInt8.ofNat n.toNat) = le v k := by
  induction k with
  | zero => intro v; rfl
  | succ k ih => intro v; rw [leI_shift, le, List.map_cons, ih]
theorem bytes_eq {a b : ByteArray} (h : a.data.toList = b.data.toList) : a = b := by
  cases a; cases b
  simp only at h
  congr 1
  exact Array.toList_inj.1 h
theorem rest_p2 (v : Int) (k : Nat) : rest v k = v / p2 (8 * k) := by
  induction k with
  | zero => show v = v / p2 0; rw [p2_zero]; omega
  | succ k ih =>
    show rest v k / 256 = _
    rw [ih, show 8 * (k + 1) = 8 * k + 8 by omega, p2_add, show p2 8 = 256 from rfl, Int.ediv_ediv_of_nonneg (by have := p2_pos (8 * k); omega)]

theorem rel_put {w wr w1 : World} {v v' : Int} {b : Value} {k : Nat} (ho : w1.ownsRow w.heap.size 5 1 b (k + 1) ((leI v k).map (Value.int .u8) ++ [.int .u8 v'])) (hv : v' = rest v k % 256)
    (hb : Below w.heap.size w wr) (hg : Below w.heap.size wr w1) :
    w1.ownsRow w.heap.size 5 1 b (k + 1) ((leI v (k + 1)).map (Value.int .u8)) ∧ Below w.heap.size w w1 := by
  refine ⟨?_, hb.trans hg⟩
  simpa [leI, hv] using ho

/-- the post of the reference's Put: the bytes, or nothing -/
def putRes (v : Int) (n : Nat) : Array Value := if rest v n = 0 then #[.string (leS v n), .int .i64 0] else #[.string ByteArray.empty, .int .i64 1]
def PutPost (v : Int) (n : Nat) (w : World) (e : Ending) (w' : World) : Prop := e = .returned (.tuple (putRes v n)) ∧ Below w.heap.size w w'

theorem Try.info5 : (Try.prog.info? 5).map (fun i => (i.zero, i.size, i.bytes)) = some (some (.int .u8 0), 1, 1) := by kernel_rfl

set_option maxRecDepth 100000 in
theorem rput_any (v : Int) (n : Nat) (w : World) (h1 : 1 ≤ n) (h2 : n ≤ 8) (v0 : 0 ≤ v) (v1 : v < 18446744073709551616) :
    Calls Try.prog 49 #[.int .u64 v, .int .i64 n] w (PutPost v n w) := by
  obtain ⟨i0, hi, hz0, hz1, hz2⟩ := info_parts Try.info5
  go_enter Try.func49, Try.ntmps49
  go_wp2
  go_loopw [0, 6, 7] (fun x b i wr => ∃ k : Nat, k ≤ n ∧ i = .int .i64 k ∧ x = .int .u64 (rest v k) ∧ wr.ownsRow w.heap.size 5 1 b k ((leI v k).map (Value.int .u8)) ∧ Below w.heap.size w wr) (fun _ _ i _ => n - (intOf i).toNat)
  case atStart => exact ⟨0, Nat.zero_le _, rfl, rfl, ⟨rfl, Or.inl ⟨rfl, rfl⟩⟩, Below.refl _ _⟩
  case round =>
    obtain ⟨k, hk, rfl, rfl, hown, hb⟩ := hrel
    have hr := rest_bd v k v0 v1
    by_cases hlt : k < n
    · go_wp2_with (at_builtin; refine wpList_append_own _ rfl _ _ 71 rfl w.heap.size 5 i0 (.int .u8 0) 1 1 Try.underlying71 hi hz0 hz1 hz2 rfl (by decide) _ _ _ rfl (hown.alloc _) ⟨wr.heap.size, 0, none⟩ 1 1 [.int .u8 (rest v k % 256)] rfl rfl ?c1 ?c2 ?c3 ?c4 ?c5 ?_)
      case c1 => exact cell_one_new _ _ _
      case c2 => intro u hu; simp at hu; subst hu; rfl
      case c3 => unfold maxLen; omega
      case c4 => omega
      case c5 => have := hb.size; simp; omega
      intro v' w1 hown1 hgrow _
      have hbw : Below w.heap.size wr w1 := by
        refine Below.grown (row := u6.ownBlock) ((Below.refl _ _).alloc hb.size _) hgrow (by have := hb.size; simp; omega) ?_
        intro g hg
        exact hown.2.elim (fun h => by rw [h.1] at hg; simp [Value.ownBlock] at hg) (fun ⟨g', _, _, h, hge, _⟩ => by rw [h] at hg; simp [Value.ownBlock] at hg; omega)
      have HR := Lib.hid (rel_put hown1 rfl hb hbw)
      clear hown1 hgrow hbw hown
      go_wp2
      go_roundw
      case rel => exact ⟨k + 1, by omega, by go_num, rfl, HR.out.1, HR.out.2⟩
      case measure => simp [intOf]; omega
    · obtain rfl : k = n := by omega
      have hcv := conv_owned (P := Try.prog) (src := 71) (e := 5) (dst := 9) Try.underlying71 Try.underlying5 Try.underlying9 hown
      have HS : Hid (strOfNums (leI v k) = leS v k) := strOfNums_eq _ _ (leI_le k v)
      have hbw := Lib.hid hb
      clear hb hown
      by_cases hz : rest v k = 0
      · have HP : Hid (putRes v k = #[.string (leS v k), .int .i64 0]) := if_pos hz
        go_wp2
        go_ret2
        exact ⟨ret_tup (by rw [HP.out, ← HS.out]; rfl), hbw.out⟩
      · have HP : Hid (putRes v k = #[.string ByteArray.empty, .int .i64 1]) := if_neg hz
        have hpos : 0 < rest v k := by omega
        go_wp2
        go_ret2
        exact ⟨ret_tup (by rw [HP.out]; rfl), hbw.out⟩

/-- the number whose bytes these are, the lowest first -/
def num : List UInt8 → Int
  | [] => 0
  | b :: l => (b.toNat : Int) + 256 * num l
def numTo (s : ByteArray) (k : Nat) : Int := num (s.data.toList.take k)
def numS (s : ByteArray) : Int := numTo s s.size

theorem rput_fit (v : Int) (n : Nat) (w : World) (h1 : 1 ≤ n) (h2 : n ≤ 8) (v0 : 0 ≤ v) (v1 : v < p2 (8 * n)) :
    Calls Try.prog 49 #[.int .u64 v, .int .i64 n] w fun e w' => e = .returned (.tuple #[.string (leS v n), .int .i64 0]) ∧ Below w.heap.size w w' := by
  have h64 : p2 (8 * n) ≤ p2 64 := p2_le (by omega)
  rw [p2_64] at h64
  have h := rput_any v n w h1 h2 v0 (by omega)
  have hr : rest v n = 0 := by rw [rest_p2]; exact Int.ediv_eq_zero_of_lt v0 v1
  unfold PutPost putRes at h
  rwa [if_pos hr] at h
theorem leS_size (v : Int) (m : Nat) : (leS v m).size = m := by
  show (le v m).toArray.size = m
  rw [List.size_toArray, le_length]
end Go.Proofs.Ytgnjknboahcmgaa

/- Tags and their bytes: what the document asks of Encode, Decode and May, and what follows from it. -/
namespace Go.Proofs.Ytgnjknboahcmgaa
open Go.RowKit

/-- a tag that may be -/
def MayT (k l q e : Int) : Prop := 1 ≤ k ∧ k ≤ 4 ∧ 0 ≤ l ∧ l ≤ 4096 ∧ 0 ≤ q ∧ q ≤ 281474976710655 ∧ 0 ≤ e ∧ e ≤ 4294967295
instance (k l q e : Int) : Decidable (MayT k l q e) := by unfold MayT; infer_instance
def byteT (s : ByteArray) (i : Nat) : Int := ((s.data.toList.getD i 0).toNat : Int)
def lT (s : ByteArray) : Int := numS (s.extract 2 4)
def qT (s : ByteArray) : Int := numS (s.extract 4 10)
def eT (s : ByteArray) : Int := numS (s.extract 10 14)
/-- a text that is a tag's bytes -/
def FormT (s : ByteArray) : Prop := s.size = 16 ∧ byteT s 0 = 27 ∧ byteT s 14 = 0 ∧ byteT s 15 = 0
def OkT (s : ByteArray) : Prop := FormT s ∧ MayT (byteT s 1) (lT s) (qT s) (eT s)
instance (s : ByteArray) : Decidable (FormT s) := by unfold FormT; infer_instance
instance (s : ByteArray) : Decidable (OkT s) := by unfold OkT; infer_instance
end Go.Proofs.Ytgnjknboahcmgaa

/- A block of the call's own, whole: what a world holds in it, behind new blocks, calls, stores. -/
namespace Go.Proofs.Ytgnjknboahcmgaa
open Go.RowKit

/-- block b holds these cells, and may be written -/
def Blk (w : World) (b : Nat) (cs : Array Value) (t : TypeId) : Prop := w.heap[b]? = some (.cells cs t (0, 0))
theorem Blk.lt {w : World} {b : Nat} {cs : Array Value} {t : TypeId} (h : Blk w b cs t) : b < w.heap.size := (Array.getElem?_eq_some_iff.1 h).1
theorem Blk.new (w : World) (cs : Array Value) (t : TypeId) : Blk (w.alloc (.cells cs t)) w.heap.size cs t := heap_alloc_new _ _
theorem Blk.alloc {w : World} {b : Nat} {cs : Array Value} {t : TypeId} (h : Blk w b cs t) (o : Obj) : Blk (w.alloc o) b cs t := by
  have hb := h.lt
  unfold Blk at *
  (first | rw [heap_alloc_old _ _ hb] | rw [heap_alloc_old _ _ _ hb]); exact h
theorem Blk.drew {w : World} {b : Nat} {cs : Array Value} {t : TypeId} (h : Blk w b cs t) : Blk w.drew b cs t := h
theorem Blk.drewN {w : World} {b n : Nat} {cs : Array Value} {t : TypeId} (h : Blk w b cs t) : Blk (w.drewN n) b cs t := h
theorem Blk.below {w w' : World} {b B : Nat} {cs : Array Value} {t : TypeId} (h : Blk w b cs t) (hb : Below B w w') (hB : b < B) : Blk w' b cs t := by
  unfold Blk at *
  rw [hb.block b hB]; exact h
theorem Blk.after {w w' : World} {b : Nat} {cs : Array Value} {t : TypeId} (h : Blk w b cs t) (hb : Below w.heap.size w w') : Blk w' b cs t := h.below hb h.lt
theorem Blk.cell {w : World} {b : Nat} {cs : Array Value} {t : TypeId} (h : Blk w b cs t) (i : Nat) : w.cell? ⟨b, i, none⟩ = cs[i]? := by
  unfold Blk at h; simp [World.cell?, h]
theorem Blk.free {w : World} {b : Nat} {cs : Array Value} {t : TypeId} (h : Blk w b cs t) (i : Nat) : w.frozen? ⟨b, i, none⟩ = false := by
  unfold Blk at h; simp [World.frozen?, h]
theorem Blk.set {w : World} {b : Nat} {cs ds : Array Value} {t : TypeId} (h : Blk w b cs t) (i : Nat) (v : Value) (he : cs.setIfInBounds i v = ds) : Blk (w.setCell ⟨b, i, none⟩ v) b ds t := by
  unfold Blk at *
  rw [heap_setCell_same _ _ _ _ _ _ h, he]
theorem Blk.set_other {w : World} {b c : Nat} {cs : Array Value} {t : TypeId} (h : Blk w b cs t) (hne : c ≠ b) (i : Nat) (v : Value) : Blk (w.setCell ⟨c, i, none⟩ v) b cs t := by
  unfold Blk at *
  rw [Below.heap_setCell _ _ _ _ (Ne.symm hne)]; exact h
theorem Blk.put {w : World} {b : Nat} {cs : Array Value} {t : TypeId} (h : Blk w b cs t) (ds : Array Value) : Blk (w.setRow b ds) b ds t := by
  unfold Blk at *
  exact setRow_heap w b cs ds _ _ h
theorem Blk.put_other {w : World} {b c : Nat} {cs : Array Value} {t : TypeId} (h : Blk w b cs t) (hne : c ≠ b) (ds : Array Value) : Blk (w.setRow c ds) b cs t := by
  unfold Blk at *
  simp only [World.setRow, Array.getElem?_modify]
  rw [if_neg hne]; exact h
theorem below_put {B g : Nat} {a w : World} (hB : B ≤ g) (cs : Array Value) (h : Below B a w) : Below B a (w.setRow g cs) := by
  have hk : ∀ k, k < B → (w.setRow g cs).heap[k]? = w.heap[k]? := by
    intro k hk
    simp only [World.setRow, Array.getElem?_modify]
    rw [if_neg (by omega)]
  obtain ⟨h1, h2, h3, h4, h5⟩ := h
  exact ⟨h1, h2, h3, by rw [size_setRow]; exact h4, fun k hk2 => by rw [hk k hk2]; exact h5 k hk2⟩

/-- a whole row out of a variable, at an operation that is guarded -/
theorem wpList_load_row_if {P : Program} {ops : Array Oper} {rest : List Oper} {o : Oper} {a : Act} {w : World} {Q : Exit → Act → World → Prop} (hw : Region.wanted o (yielded ops a.tmps) = true) (ty : TypeId) (x : Operand) (ho : o.op = .load ty x)
    (g : Nat) (hx : a.eval x = .pointer (some ⟨g, 0, none⟩)) (t : TypeId) (cs : Array Value) (fr : Nat × Nat) (d : TypeDesc) (hg : w.heap[g]? = some (.cells cs t fr))
    (hu : P.underlying ty = some d) (hd : (match d with | .struct _ | .array _ _ => true | _ => false) = true) (hi : (P.info? ty).map (·.size) = some cs.size)
    (h : wpList P ops Q rest (a.put o.dst (.agg cs)) w) : wpList P ops Q (o :: rest) a w := by
  unfold wpList
  rw [if_pos hw]
  exact Or.inl (wp_load_row ty x ho g hx t cs fr d hg hu hd hi h)

/-- what a function of two results gives, the first in a block of its own -/
theorem results_cell_tmp {P : Program} {fn : Func} {p q : Tmp} {ty : TypeId} (h : fn.results = #[.cell p ty, .tmp q]) (tmps : Array Value) (w : World) (g : Nat) (t : TypeId) (cs : Array Value) (d : TypeDesc)
    (hp : tmps.getD p undef = .pointer (some ⟨g, 0, none⟩)) (hg : Blk w g cs t)
    (hu : P.underlying ty = some d) (hd : (match d with | .struct _ | .array _ _ => true | _ => false) = true) (hi : (P.info? ty).map (·.size) = some cs.size) :
    (results fn tmps).run P w = .ok (.tuple #[.agg cs, tmps.getD q undef]) w := by
  have hp' : tmps[p]?.getD undef = .pointer (some ⟨g, 0, none⟩) := by simpa using hp
  simp [results, h, hp', asAddr, run_loadVar_row w g t ty cs (0, 0) d hg hu hd hi]

end Go.Proofs.Ytgnjknboahcmgaa

/- What several layers share: a text's bytes, a row that the call owns and grew, the byte type's entry. -/
namespace Go.Proofs.Ytgnjknboahcmgaa
open Go.RowKit

def bs (s : ByteArray) : List UInt8 := s.data.toList
theorem bs_length (s : ByteArray) : (bs s).length = s.size := by simp [bs]
end Go.Proofs.Ytgnjknboahcmgaa

/- What is durable, and its pages: what the document asks of Fits, Put and Take. -/
namespace Go.Proofs.Ytgnjknboahcmgaa
set_option maxRecDepth 100000
open Go.RowKit

/-- what is durable -/
structure Sn where
  f : List Int
  c : List Int
  s : List Int
  t : List Int
/-- a slice of numbers, wherever it lies -/
def IsAt (w : World) (oa : Option Addr) (l : List Int) : Prop := l ≠ [] → ∃ b off, oa = some ⟨b, off, none⟩ ∧ b < w.heap.size ∧ ∀ i (hi : i < l.length), w.cell? ⟨b, off + i, none⟩ = some (.int .i64 l[i])
theorem IsAt.below {w w' : World} {oa : Option Addr} {l : List Int} (h : IsAt w oa l) (hb : Below w.heap.size w w') : IsAt w' oa l := by
  intro hl
  obtain ⟨b, off, ho, hlt, hc⟩ := h hl
  exact ⟨b, off, ho, Nat.lt_of_lt_of_le hlt hb.size, fun i hi => by rw [World.cell?_of_block (w := w) (hb.block b hlt)]; exact hc i hi⟩
theorem IsAt.nil (w : World) (oa : Option Addr) : IsAt w oa [] := fun h => absurd rfl h
/-- as a value -/
def IvAt (w : World) (v : Value) (l : List Int) : Prop := ∃ (oa : Option Addr) (cap : Nat), v = .slice oa l.length cap ∧ (l.length ≤ cap ∧ cap ≤ maxLen) ∧ IsAt w oa l
theorem IvAt.below {w w' : World} {v : Value} {l : List Int} (h : IvAt w v l) (hb : Below w.heap.size w w') : IvAt w' v l := by
  obtain ⟨oa, cap, hv, hc, hk⟩ := h
  exact ⟨oa, cap, hv, hc, hk.below hb⟩
theorem IvAt.nil (w : World) : IvAt w (.slice none 0 0) [] := ⟨none, 0, rfl, ⟨Nat.zero_le _, Nat.zero_le _⟩, IsAt.nil _ _⟩
/-- four of them -/
def SnAt (w : World) (A : Array Value) (x : Sn) : Prop := ∃ vf vc vs vt, A = #[vf, vc, vs, vt] ∧ IvAt w vf x.f ∧ IvAt w vc x.c ∧ IvAt w vs x.s ∧ IvAt w vt x.t
theorem SnAt.below {w w' : World} {A : Array Value} {x : Sn} (h : SnAt w A x) (hb : Below w.heap.size w w') : SnAt w' A x := by
  obtain ⟨vf, vc, vs, vt, hA, h1, h2, h3, h4⟩ := h
  exact ⟨vf, vc, vs, vt, hA, h1.below hb, h2.below hb, h3.below hb, h4.below hb⟩

/-- so many numbers, each from 0 to this one -/
def InL (l : List Int) (n most : Int) : Prop := (l.length : Int) = n ∧ ∀ v ∈ l, 0 ≤ v ∧ v ≤ most
instance (l : List Int) (n most : Int) : Decidable (InL l n most) := by unfold InL; infer_instance
def inB (l : List Int) (n most : Int) : Bool := decide (InL l n most)
/-- does it fit a geometry of b blocks and n sectors? -/
def FitS (b n : Int) (x : Sn) : Prop := InL x.f n 281474976710655 ∧ InL x.c b 4294967295 ∧ InL x.s b 16777215 ∧ InL x.t b 16777215
instance (b n : Int) (x : Sn) : Decidable (FitS b n x) := by unfold FitS; infer_instance
/-- its bytes -/
def blkB (x : Sn) (i : Nat) : List UInt8 := le (x.c.getD i 0) 4 ++ (le (x.s.getD i 0) 3 ++ le (x.t.getD i 0) 3)
def secB (l : List Int) : List UInt8 := l.flatMap fun v => le v 6
def bytesN (x : Sn) : List UInt8 := secB x.f ++ (List.range x.c.length).flatMap (blkB x)
theorem secB_len (l : List Int) : (secB l).length = 6 * l.length := by
  unfold secB
  induction l with
  | nil => rfl
  | cons v r ih => rw [List.flatMap_cons, List.length_append, ih, le_length, List.length_cons]; omega
theorem blkB_len (x : Sn) (i : Nat) : (blkB x i).length = 10 := by unfold blkB; simp [le_length]
theorem blksB_len (x : Sn) (n : Nat) : ((List.range n).flatMap (blkB x)).length = 10 * n := by
  induction n with
  | zero => rfl
  | succ n ih => rw [List.range_succ, List.flatMap_append, List.length_append, ih]; simp [blkB_len]; omega
theorem bytesN_len (x : Sn) : (bytesN x).length = 6 * x.f.length + 10 * x.c.length := by unfold bytesN; rw [List.length_append, secB_len, blksB_len]
/-- with noughts behind them, on k pages of y bytes -/
def padN (x : Sn) (k y : Nat) : List UInt8 := bytesN x ++ List.replicate (k * y - (bytesN x).length) 0
def pageN (x : Sn) (k y i : Nat) : ByteArray := ⟨(((padN x k y).drop (i * y)).take y).toArray⟩
def pgsN (x : Sn) (k y : Nat) : List ByteArray := (List.range k).map (pageN x k y)
end Go.Proofs.Ytgnjknboahcmgaa

/- A region that draws its order, by a fact of each operation's value that stays true whatever comes after it: no order is looked at. -/
namespace Go.Proofs.Ytgnjknboahcmgaa

section
variable {P : Program} {ops : Array Oper} {Q : Exit → Act → World → Prop} {md : Region.Mode}

/-- how many are still to come -/
def still (n : Nat) (listed : Array Bool) : Nat := ((List.range n).filter fun i => !listed.getD i true).length

theorem still_zero {n : Nat} {listed : Array Bool} (h : still n listed = 0) : ∀ i, i < n → listed.getD i true = true := by
  intro i hi
  have h2 : (List.range n).filter (fun i => !listed.getD i true) = [] := List.eq_nil_of_length_eq_zero h
  have h3 := List.filter_eq_nil_iff.1 h2 i (List.mem_range.2 hi)
  simpa using h3
theorem filter_less {α : Type} (l : List α) (p q : α → Bool) (hpq : ∀ x, x ∈ l → q x = true → p x = true) (x : α) (hx : x ∈ l) (hp : p x = true) (hq : q x = false) : (l.filter q).length < (l.filter p).length := by
  induction l with
  | nil => cases hx
  | cons y l ih =>
    have hle : (l.filter q).length ≤ (l.filter p).length := by
      clear ih hx
      induction l with
      | nil => exact Nat.le_refl _
      | cons z l ih2 =>
        have hz := hpq z (by simp)
        have ih3 := ih2 (fun x hx => hpq x (by simp at hx ⊢; rcases hx with h | h <;> simp [h]))
        cases hq' : q z with
        | true => simp [hq', hz hq']; exact ih3
        | false => cases hp' : p z <;> simp [hq', hp'] <;> omega
    rcases List.mem_cons.1 hx with rfl | hx
    · simp [hp, hq]; omega
    · have ih4 := ih (fun z hz => hpq z (List.mem_cons_of_mem _ hz)) hx
      cases hq' : q y with
      | true => simp [hq', hpq y (by simp) hq']; exact ih4
      | false => cases hp' : p y <;> simp [hq', hp'] <;> omega
theorem still_less {n i : Nat} {listed : Array Bool} (hi : i < n) (h : listed.getD i true = false) : still n (listed.setIfInBounds i true) < still n listed := by
  unfold still
  refine filter_less _ _ _ ?_ i (List.mem_range.2 hi) (by simp [h]) ?_
  · intro x _ hx
    by_cases e : i = x
    · subst e
      have hs : i < listed.size := by
        rcases Nat.lt_or_ge i listed.size with h' | h'
        · exact h'
        · simp [Array.getD, Nat.not_lt.2 h'] at h
      simp [Array.getD, hs] at hx
    · simp [getD_set_ne true e] at hx ⊢; exact hx
  · have hs : i < listed.size := by
      rcases Nat.lt_or_ge i listed.size with h' | h'
      · exact h'
      · simp [Array.getD, Nat.not_lt.2 h'] at h
    simp [Array.getD, hs]


/-- every operation waits for earlier ones alone, and has a temporary of its own -/
structure Plain (ops : Array Oper) (Base : Act → Prop) : Prop where
  before : ∀ (i : Nat) (o : Oper), ops[i]? = some o → ∀ e ∈ o.after, e.on < i
  own : ∀ (i : Nat) (o : Oper), ops[i]? = some o → ∃ d, o.dst = some d ∧ (∀ a, Base a → d < a.tmps.size) ∧ ∀ (j : Nat) (o' : Oper), ops[j]? = some o' → j ≠ i → ∃ d', o'.dst = some d' ∧ d ≠ d'

/-- a fact of each operation, one by one -/
def AllFrom (X : Nat → Oper → Prop) : Nat → List Oper → Prop
  | _, [] => True
  | k, o :: l => X k o ∧ AllFrom X (k + 1) l
theorem AllFrom.at {X : Nat → Oper → Prop} : ∀ {l : List Oper} {k : Nat}, AllFrom X k l → ∀ j o, l[j]? = some o → X (k + j) o
  | [], _, _, j, o, h => by simp at h
  | p :: l, k, h, 0, o, ho => by simp at ho; subst ho; exact h.1
  | p :: l, k, h, j + 1, o, ho => by
    have := AllFrom.at h.2 j o (by simpa using ho)
    rwa [show k + 1 + j = k + (j + 1) by omega] at this
theorem AllFrom.all {X : Nat → Oper → Prop} {l : List Oper} (h : AllFrom X 0 l) : ∀ (i : Nat) (o : Oper), l.toArray[i]? = some o → X i o := fun i o ho => by
  have := AllFrom.at h i o (by simpa using ho)
  rwa [Nat.zero_add] at this
end
end Go.Proofs.Ytgnjknboahcmgaa

/- A region that draws its order, by facts of the frame and the world that each operation leaves, and that stay true whatever comes after it: no order is looked at; operations without a temporary (stores) too. -/
namespace Go.Proofs.Ytgnjknboahcmgaa

section
variable {P : Program} {ops : Array Oper} {Q : Exit → Act → World → Prop} {md : Region.Mode}

theorem put_slot {a : Act} {d : Option Tmp} {v : Value} {s : Tmp} (h : ∀ x, d = some x → x ≠ s) : (a.put d v).tmps.getD s undef = a.tmps.getD s undef := by
  cases d with
  | none => rfl
  | some x => simp [Act.put, Array.getD_eq_getD_getElem?, Array.getElem?_setIfInBounds_ne (h x rfl)]

theorem wpAny_facts2 {Base : Act → Prop} {C : World → Prop} {T : World → World → Prop} {R : Nat → Act → World → Prop} {S : Nat → List Tmp}
    (hbefore : ∀ (i : Nat) (o : Oper), ops[i]? = some o → ∀ e ∈ o.after, Region.binds md e = true → e.on < i)
    (hslots : ∀ (i j : Nat) (o o' : Oper), ops[i]? = some o → ops[j]? = some o' → j ≠ i → (∀ e ∈ o'.after, Region.binds md e = true → e.on ≠ i) → ∀ d, o.dst = some d → d ∉ S j)
    (hext : ∀ j a a' w w', R j a w → (∀ s ∈ S j, a'.tmps.getD s undef = a.tmps.getD s undef) → T w w' → R j a' w')
    (hbase : ∀ (i : Nat) (o : Oper), ops[i]? = some o → ∀ a v, Base a → Base (a.put o.dst v))
    (hops : ∀ (i : Nat) (o : Oper), ops[i]? = some o → ∀ a w, C w → Base a → (∀ e ∈ o.after, Region.binds md e = true → R e.on a w) →
      wpOp P ops Q i (fun a' w' => ∃ v, a' = a.put o.dst v ∧ C w' ∧ T w w' ∧ R i a' w') a w)
    (hfin : ∀ a w, C w → Base a → (∀ i, i < ops.size → R i a w) → Q .normal a w) :
    ∀ (fuel : Nat) (listed : Array Bool) (a : Act) (w : World), still ops.size listed ≤ fuel → listed.size = ops.size → C w → Base a →
      (∀ i, i < ops.size → listed.getD i true = true → R i a w ∧ ∀ o, ops[i]? = some o → ∀ e ∈ o.after, Region.binds md e = true → listed.getD e.on true = true) → wpAny P md ops Q fuel listed a w := by
  have all : ∀ (listed : Array Bool), listed.size = ops.size → Region.ready md ops listed = [] → ∀ i, i < ops.size → listed.getD i true = true := by
    intro listed hsz hr i
    induction i using Nat.strongRecOn with
    | ind i ih =>
      intro hi
      cases hl : listed.getD i true with
      | true => rfl
      | false =>
        exfalso
        have hm : i ∈ Region.ready md ops listed := by
          rw [mem_ready]
          refine ⟨hl, ops[i], by simp [hi], fun e he hb => ?_⟩
          have hlt := hbefore i ops[i] (by simp [hi]) e he hb
          have h2 := ih e.on hlt (by omega)
          have h3 : e.on < listed.size := by omega
          simp [Array.getD, h3] at h2 ⊢
          exact h2
        rw [hr] at hm; cases hm
  intro fuel
  induction fuel with
  | zero =>
    intro listed a w hst hsz hC hB hR
    have hall := still_zero (Nat.le_zero.1 hst)
    have hr : Region.ready md ops listed = [] := by
      cases h : Region.ready md ops listed with
      | nil => rfl
      | cons i l =>
        have hm : i ∈ Region.ready md ops listed := by rw [h]; exact List.mem_cons_self
        obtain ⟨h1, o, ho, _⟩ := mem_ready.1 hm
        have hi : i < ops.size := (Array.getElem?_eq_some_iff.1 ho).1
        rw [hall i hi] at h1; cases h1
    exact ⟨hr, hfin a w hC hB fun i hi => (hR i hi (hall i hi)).1⟩
  | succ fuel ih =>
    intro listed a w hst hsz hC hB hR
    refine ⟨fun hr => hfin a w hC hB fun i hi => (hR i hi (all listed hsz hr i hi)).1, fun i hi => ?_⟩
    obtain ⟨h1, o, ho, hdeps⟩ := mem_ready.1 hi
    have hin : i < ops.size := (Array.getElem?_eq_some_iff.1 ho).1
    have hdl : ∀ e ∈ o.after, Region.binds md e = true → listed.getD e.on true = true := by
      intro e he hb
      have hlt := hbefore i o ho e he hb
      have h2 := hdeps e he hb
      have h3 : e.on < listed.size := by omega
      simp [Array.getD, h3] at h2 ⊢
      exact h2
    refine wpOp_mono ?_ (hops i o ho a w hC hB fun e he hb => (hR e.on (by have := hbefore i o ho e he hb; omega) (hdl e he hb)).1)
    rintro a' w' ⟨v, rfl, hC', hT, hRv⟩
    have hless := still_less hin h1
    have keep : ∀ k, listed.getD k true = true → (listed.setIfInBounds i true).getD k true = true := by
      intro k hk
      by_cases e : k = i
      · subst e
        have hs : k < listed.size := by omega
        simp [Array.getD, hs]
      · rw [getD_set_ne true (Ne.symm e)]; exact hk
    refine ih _ _ _ (by omega) (by simp [hsz]) hC' (hbase i o ho a v hB) fun j hj hlj => ?_
    by_cases e : j = i
    · subst e
      refine ⟨hRv, fun o' ho' e he hb => keep _ ?_⟩
      obtain rfl : o' = o := Option.some.inj (ho'.symm.trans ho)
      exact hdl e he hb
    · rw [getD_set_ne true (Ne.symm e)] at hlj
      obtain ⟨hRj, hdj⟩ := hR j hj hlj
      refine ⟨hext j a _ w w' hRj (fun s hs => put_slot fun x hx hxs => ?_) hT, fun o' ho' e he hb => keep _ (hdj o' ho' e he hb)⟩
      subst hxs
      refine hslots i j o ops[j] ho (by simp [hj]) e (fun e' he' hb' hne => ?_) x hx hs
      have := hdj ops[j] (by simp [hj]) e' he' hb'
      rw [hne, h1] at this; cases this

/-- the two conditions on the list, as a Bool -/
def planB (l : List Oper) (S : List (List Tmp)) : Bool :=
  (List.range l.length).all fun i => match l[i]? with
    | none => true
    | some o => (o.after.all fun e => !Region.binds .any e || decide (e.on < i)) && (match o.dst with
      | none => true
      | some d => (List.range l.length).all fun j => j == i || (match l[j]? with
        | some o' => (o'.after.any fun e => Region.binds .any e && e.on == i) || !(S.getD j []).contains d
        | none => true))
theorem if_yes {c : Bool} {A B : Prop} (h : c = true) (hA : A) : if c = true then A else B := by rw [if_pos h]; exact hA
theorem if_no {c : Bool} {A B : Prop} (h : c = false) (hB : B) : if c = true then A else B := by rw [h]; exact hB
/-- what an operation leaves: its slot written, the world in the class and gone on, its own fact -/
def Leaves (C : World → Prop) (T : World → World → Prop) (R : Nat → Act → World → Prop) (i : Nat) (o : Oper) (a : Act) (w : World) (a' : Act) (w' : World) : Prop := ∃ v, a' = a.put o.dst v ∧ C w' ∧ T w w' ∧ R i a' w'
/-- .. where operations may be guarded: an operation that is not wanted leaves its slot undefined -/
theorem wp_region_list3 {id : Nat} {l : List Oper} {a : Act} {w : World} (S : List (List Tmp)) (Base : Act → Prop) (C : World → Prop) (T : World → World → Prop) (R : Nat → Act → World → Prop) (hm : P.follows .mixedOrders = true)
    (hpl : planB l S = true) (hext : ∀ j a a' w w', R j a w → (∀ s ∈ S.getD j [], a'.tmps.getD s undef = a.tmps.getD s undef) → T w w' → R j a' w')
    (hbase : AllFrom (fun _ o => ∀ a v, Base a → Base (a.put o.dst v)) 0 l) (hC : C { w with drawn := w.drawn + 1 }) (hB : Base a)
    (hops : AllFrom (fun i o => ∀ a w, C w → Base a → (∀ e ∈ o.after, Region.binds .any e = true → R e.on a w) →
      if Region.wanted o (yielded l.toArray a.tmps) = true then o.wp P a w (Leaves C T R i o a w) Q
      else Leaves C T R i o a w (a.put o.dst undef) w) 0 l)
    (hfin : ∀ a w, C w → Base a → (∀ i, i < l.length → R i a w) → Q .normal a w) : (Code.region id l.toArray true).wp P Q a w := by
  have hp := List.all_eq_true.1 hpl
  refine wp_region_any hm (wpAny_facts2 (S := fun j => S.getD j []) (Base := Base) (C := C) (T := T) (R := R) ?_ ?_ hext hbase.all
    (fun i o ho a w h1 h2 h3 => ?_)
    (fun a w h1 h2 h3 => hfin a w h1 h2 fun i hi => h3 i (by simpa using hi)) _ _ _ _ ?_ (by simp) hC hB ?_)
  · intro i o ho e he hb
    have ho' : l[i]? = some o := by simpa using ho
    have h1 := hp i (List.mem_range.2 (List.getElem?_eq_some_iff.1 ho').1)
    simp only [ho', Bool.and_eq_true] at h1
    have h2 := (Array.all_eq_true_iff_forall_mem.1 h1.1) e he
    simpa [hb] using h2
  · intro i j o o' ho ho' hne hno d hd
    have hi : l[i]? = some o := by simpa using ho
    have hj : l[j]? = some o' := by simpa using ho'
    have h1 := hp i (List.mem_range.2 (List.getElem?_eq_some_iff.1 hi).1)
    simp only [hi, hd, Bool.and_eq_true] at h1
    have h2 := List.all_eq_true.1 h1.2 j (List.mem_range.2 (List.getElem?_eq_some_iff.1 hj).1)
    simp only [hj, Bool.or_eq_true, beq_iff_eq] at h2
    rcases h2 with h2 | h2 | h2
    · exact absurd h2 hne
    · obtain ⟨k, hk, hb⟩ := Array.any_eq_true.1 h2
      obtain ⟨e, he⟩ : ∃ e, e = o'.after[k] := ⟨_, rfl⟩
      rw [← he] at hb
      have he : e ∈ o'.after := by rw [he]; exact Array.getElem_mem hk
      simp only [Bool.and_eq_true, beq_iff_eq] at hb
      exact absurd hb.2 (hno e he hb.1)
    · intro hm
      simp at h2
      exact h2 hm
  · have h4 := hops.all i o ho a w h1 h2 h3
    unfold wpOp
    simp only [ho]
    by_cases hw : Region.wanted o (yielded l.toArray a.tmps) = true
    · rw [if_pos hw] at h4 ⊢
      exact Or.inl h4
    · rw [if_neg hw] at h4 ⊢
      exact h4
  · unfold still
    exact Nat.le_trans (List.length_filter_le _ _) (by simp)
  · intro i hi h
    have hi' : i < l.length := by simpa using hi
    simp [Array.getD] at h
    omega

end
end Go.Proofs.Ytgnjknboahcmgaa

/- Facts of a drawn region's operations: a value in a slot each, or a fact of one's own. -/
namespace Go.Proofs.Ytgnjknboahcmgaa
open Go.RowKit

/-- operation j has left this value in this slot; where the list says nothing: Sp -/
def RV (vs : List (Option (Tmp × Value))) (Sp : Nat → Act → World → Prop) (j : Nat) (a : Act) (w : World) : Prop :=
  match vs[j]? with
  | some (some (d, v)) => a.tmps.getD d undef = v
  | some none => Sp j a w
  | none => True
/-- the slots that a fact looks at -/
def SV (vs : List (Option (Tmp × Value))) (sp : List Tmp) : List (List Tmp) := vs.map fun o => match o with
  | some (d, _) => [d]
  | none => sp
theorem RV.ext {vs : List (Option (Tmp × Value))} {sp : List Tmp} {Sp : Nat → Act → World → Prop} {T : World → World → Prop}
    (hsp : ∀ j a a' w w', Sp j a w → (∀ d ∈ sp, a'.tmps.getD d undef = a.tmps.getD d undef) → T w w' → Sp j a' w') :
    ∀ j a a' w w', RV vs Sp j a w → (∀ s ∈ (SV vs sp).getD j [], a'.tmps.getD s undef = a.tmps.getD s undef) → T w w' → RV vs Sp j a' w' := by
  intro j a a' w w' h hd hT
  unfold RV at *
  rw [List.getD_eq_getElem?_getD] at hd
  cases hj : vs[j]? with
  | none => trivial
  | some o =>
    rw [hj] at h
    cases o with
    | none => exact hsp j a a' w w' h (fun d hm => hd d (by simp [SV, hj]; exact hm)) hT
    | some p => exact (hd p.1 (by simp [SV, hj])).trans h

/-- a world goes on: nothing that was there turns -/
def Goes (w w' : World) : Prop := Below w.heap.size w w'
theorem Goes.refl (w : World) : Goes w w := Below.refl _ _

end Go.Proofs.Ytgnjknboahcmgaa

/- Records and their bytes: what the document asks of May, Put and Take, and what follows from it. -/
namespace Go.Proofs.Ytgnjknboahcmgaa
set_option maxRecDepth 100000
open Go.RowKit

/-- a record's cells -/
def ra (k a b : Int) : Array Value := #[.int .i64 k, .int .i64 a, .int .i64 b]
theorem ra_one (k a b : Int) : (ra k a b).all (·.oneCell') = true := by
  rw [Array.all_eq_true_iff_forall_mem]
  intro v hv
  simp [ra] at hv
  rcases hv with rfl | rfl | rfl <;> rfl
theorem size_rec : (Try.prog.info? 37).map (·.size) = some 3 := by kernel_rfl
/-- a record that may be -/
def MayR (k a b : Int) : Prop := ((k = 1 ∨ k = 2) ∧ 0 ≤ a ∧ a ≤ 4096 ∧ 0 ≤ b ∧ b ≤ 281474976710655) ∨ (k = 3 ∧ 0 ≤ a ∧ a ≤ 63 ∧ 1 ≤ b ∧ b ≤ 4294967295) ∨ (k = 4 ∧ 0 ≤ a ∧ a ≤ 63 ∧ 1 ≤ b ∧ b ≤ 2)
instance (k a b : Int) : Decidable (MayR k a b) := by unfold MayR; infer_instance
def mayR (k a b : Int) : Bool := decide (MayR k a b)
theorem mayR_iff (k a b : Int) : mayR k a b = true ↔ MayR k a b := decide_eq_true_iff
theorem may_bd {k a b : Int} (h : MayR k a b) : 1 ≤ k ∧ k ≤ 4 ∧ 0 ≤ a ∧ a ≤ 4096 ∧ 0 ≤ b ∧ b ≤ 281474976710655 := by
  rcases h with ⟨h1 | h1, h2, h3, h4, h5⟩ | ⟨h1, h2, h3, h4, h5⟩ | ⟨h1, h2, h3, h4, h5⟩ <;> omega
def kR (s : ByteArray) : Int := numS (s.extract 0 1)
def aR (s : ByteArray) : Int := numS (s.extract 1 3)
def bR (s : ByteArray) : Int := numS (s.extract 3 9)
/-- a text that is a record's bytes -/
def OkR (s : ByteArray) : Prop := s.size = 9 ∧ MayR (kR s) (aR s) (bR s)
instance (s : ByteArray) : Decidable (OkR s) := by unfold OkR; infer_instance
def MayP (k a b : Int) (w : World) (r : Ending) (w' : World) : Prop := r = .returned (.bool (mayR k a b)) ∧ Below w.heap.size w w'
/-- the record's block, and nothing below has turned -/
def CR (B : Nat) (k a b : Int) (w0 w : World) : Prop := Blk w B (ra k a b) 37 ∧ Below B w0 w
theorem CR.call {B : Nat} {k a b : Int} {w0 w w' : World} (h : CR B k a b w0 w) (hb : Below w.heap.size w w') : CR B k a b w0 w' := ⟨h.1.after hb, h.2.trans (hb.mono (Nat.le_of_lt h.1.lt))⟩
/-- a block of a record in the making -/
def SpR (B : Nat) (f : Array Value) (j : Nat) (a : Act) (w : World) : Prop := ∃ g cs, B < g ∧ a.tmps.getD 4 undef = .pointer (some ⟨g, 0, none⟩) ∧ Blk w g cs 37 ∧ cs.size = 3 ∧ (j = 11 → cs = f)
def TR3 (B : Nat) (f : Array Value) (w w' : World) : Prop := Below (B + 1) w w' ∧ ∀ g cs, B < g → Blk w g cs 37 → cs.size = 3 → ∃ cs', Blk w' g cs' 37 ∧ cs'.size = 3 ∧ (cs = f → cs' = f)
theorem TR3.of {B : Nat} {f : Array Value} {w w' : World} (hb : Below w.heap.size w w') (hB : B < w.heap.size) : TR3 B f w w' :=
  ⟨hb.mono hB, fun _ cs _ h hs => ⟨cs, h.after hb, hs, id⟩⟩
theorem TR3.store {B g : Nat} {f cs : Array Value} {w : World} (hg : B < g) (h : Blk w g cs 37) (hf : f.size = 3) : TR3 B f w (w.setRow g f) :=
  ⟨below_put hg f (Below.refl _ _), fun g' cs' _ h' hs' => by
    by_cases e : g = g'
    · subst e; exact ⟨f, h.put f, hf, fun _ => rfl⟩
    · exact ⟨cs', h'.put_other e f, hs', id⟩⟩
theorem SpR.ext {B : Nat} {f : Array Value} : ∀ j a a' w w', SpR B f j a w → (∀ d ∈ [4], a'.tmps.getD d undef = a.tmps.getD d undef) → TR3 B f w w' → SpR B f j a' w' := by
  rintro j a a' w w' ⟨g, cs, hg, h1, h2, h3, h4⟩ hd hT
  obtain ⟨cs', h5, h6, h7⟩ := hT.2 g cs hg h2 h3
  exact ⟨g, cs', hg, (hd 4 (by simp)).trans h1, h5, h6, fun h => h7 (h4 h)⟩
end Go.Proofs.Ytgnjknboahcmgaa

/- Pages of records: what the document asks of Hold, Pack and Unpack. -/
namespace Go.Proofs.Ytgnjknboahcmgaa
set_option maxRecDepth 100000
open Go.RowKit

/-- a record -/
structure Rc where
  k : Int
  a : Int
  b : Int
deriving DecidableEq
def Rc.cells (x : Rc) : List Value := [.int .i64 x.k, .int .i64 x.a, .int .i64 x.b]
theorem Rc.cells_len (x : Rc) : x.cells.length = 3 := rfl
theorem Rc.arr (x : Rc) : x.cells.toArray = ra x.k x.a x.b := rfl
def MayX (x : Rc) : Prop := MayR x.k x.a x.b
instance (x : Rc) : Decidable (MayX x) := by unfold MayX; infer_instance
/-- the cells of records, one behind the other -/
def flatX (l : List Rc) : List Value := l.flatMap Rc.cells
theorem flatX_get : ∀ (l : List Rc) (i j : Nat) (hi : i < l.length), j < 3 → (flatX l)[i * 3 + j]? = (l[i].cells)[j]?
  | [], i, j, hi, hj => absurd hi (Nat.not_lt_zero i)
  | x :: r, 0, j, hi, hj => by
    unfold flatX
    rw [List.flatMap_cons, List.getElem?_append_left (by rw [Rc.cells_len]; omega)]
    simp
  | x :: r, i + 1, j, hi, hj => by
    unfold flatX
    rw [List.flatMap_cons, List.getElem?_append_right (by rw [Rc.cells_len]; omega), Rc.cells_len, show (i + 1) * 3 + j - 3 = i * 3 + j by omega]
    exact flatX_get r i j (by simpa using hi) hj
/-- a slice of records, wherever it lies -/
def XsAt (w : World) (oa : Option Addr) (l : List Rc) : Prop := l ≠ [] → ∃ b off, oa = some ⟨b, off, none⟩ ∧ b < w.heap.size ∧ ∀ i (hi : i < l.length), w.rangeAt b (off + i * 3) (l[i].cells)
theorem XsAt.below {w w' : World} {oa : Option Addr} {l : List Rc} (h : XsAt w oa l) (hb : Below w.heap.size w w') : XsAt w' oa l := by
  intro hl
  obtain ⟨b, off, ho, hlt, hc⟩ := h hl
  exact ⟨b, off, ho, Nat.lt_of_lt_of_le hlt hb.size, fun i hi j v hj => by rw [World.cell?_of_block (w := w) (hb.block b hlt)]; exact hc i hi j v hj⟩
theorem XsAt.nil (w : World) (oa : Option Addr) : XsAt w oa [] := fun h => absurd rfl h

/-- how many records a page of n bytes holds -/
def holdN (n : Int) : Nat := if 16 ≤ n ∧ n ≤ 256 then ((n - 1) / 9).toNat else 0
/-- the text of the i-th record of a page -/
def secT (s : ByteArray) (i : Nat) : ByteArray := s.extract (1 + 9 * i) (10 + 9 * i)
/-- a page that tells records -/
structure PageOk (s : ByteArray) : Prop where
  size : 16 ≤ (s.size : Int) ∧ (s.size : Int) ≤ 256
  many : 1 ≤ byteT s 0 ∧ byteT s 0 ≤ holdN s.size
  each : ∀ i : Nat, (i : Int) < byteT s 0 → OkR (secT s i)
  rest : ∀ i : Nat, 1 + 9 * byteT s 0 ≤ (i : Int) → i < s.size → byteT s i = 0
end Go.Proofs.Ytgnjknboahcmgaa

/- What is durable, as records change it. -/
namespace Go.Proofs.Ytgnjknboahcmgaa
set_option maxRecDepth 100000
open Go.RowKit

/-- may this record change it? -/
def HasR (x : Sn) (r : Rc) : Prop := MayR r.k r.a r.b ∧ (r.k ≤ 2 → r.a < x.f.length) ∧ (¬ r.k ≤ 2 → r.a < x.c.length ∧ r.a < x.s.length ∧ r.a < x.t.length)
instance (x : Sn) (r : Rc) : Decidable (HasR x r) := by unfold HasR; infer_instance
def appE (x : Sn) (r : Rc) : Int := if HasR x r then 0 else 110
/-- what the record makes of it -/
def chgX (x : Sn) (r : Rc) : Sn :=
  if r.k ≤ 2 then ⟨x.f.set r.a.toNat (max (x.f.getD r.a.toNat 0) r.b), x.c, x.s, x.t⟩
  else if r.k = 3 then ⟨x.f, x.c.set r.a.toNat r.b, x.s, x.t⟩
  else if r.b = 1 then ⟨x.f, x.c.set r.a.toNat 0, x.s.set r.a.toNat (min (x.s.getD r.a.toNat 0 + 1) 16777215), x.t⟩
  else ⟨x.f, x.c.set r.a.toNat 0, x.s, x.t.set r.a.toNat (min (x.t.getD r.a.toNat 0 + 1) 16777215)⟩
def appX (x : Sn) (r : Rc) : Sn := if HasR x r then chgX x r else x
/-- several, up to the first one that is refused -/
def allE : Sn → List Rc → Int
  | _, [] => 0
  | x, r :: l => if HasR x r then allE (chgX x r) l else 110
def allX : Sn → List Rc → Sn
  | x, [] => x
  | x, r :: l => if HasR x r then allX (chgX x r) l else x

/-- its counts do not run over -/
def CntB (x : Sn) : Prop := (∀ v ∈ x.s, 0 ≤ v ∧ v ≤ 16777215) ∧ ∀ v ∈ x.t, 0 ≤ v ∧ v ≤ 16777215
theorem set_all {l : List Int} {a : Nat} {v : Int} {p : Int → Prop} (h : ∀ u ∈ l, p u) (hv : p v) : ∀ u ∈ l.set a v, p u := fun u hu => by
  rcases List.mem_or_eq_of_mem_set hu with h1 | h1
  · exact h u h1
  · rw [h1]; exact hv
theorem cnt_get {l : List Int} (h : ∀ v ∈ l, 0 ≤ v ∧ v ≤ 16777215) (a : Nat) : 0 ≤ l.getD a 0 ∧ l.getD a 0 ≤ 16777215 := by
  rw [List.getD_eq_getElem?_getD]
  rcases Nat.lt_or_ge a l.length with h1 | h1
  · rw [List.getElem?_eq_getElem h1]
    exact h _ (List.getElem_mem h1)
  · rw [List.getElem?_eq_none h1]
    decide
theorem CntB.chg {x : Sn} (h : CntB x) (r : Rc) : CntB (chgX x r) := by
  obtain ⟨h1, h2⟩ := h
  unfold chgX
  split
  · exact ⟨h1, h2⟩
  · split
    · exact ⟨h1, h2⟩
    · split
      · exact ⟨set_all h1 (by have := cnt_get h1 r.a.toNat; omega), h2⟩
      · exact ⟨h1, set_all h2 (by have := cnt_get h2 r.a.toNat; omega)⟩
/-- how many numbers there are stays -/
def LenE (x y : Sn) : Prop := x.f.length = y.f.length ∧ x.c.length = y.c.length ∧ x.s.length = y.s.length ∧ x.t.length = y.t.length
theorem LenE.chg (x : Sn) (r : Rc) : LenE (chgX x r) x := by
  unfold chgX
  split
  · exact ⟨by simp, rfl, rfl, rfl⟩
  · split
    · exact ⟨rfl, by simp, rfl, rfl⟩
    · split
      · exact ⟨rfl, by simp, by simp, rfl⟩
      · exact ⟨rfl, by simp, rfl, by simp⟩
theorem LenE.has {x y : Sn} (h : LenE x y) (r : Rc) : HasR x r ↔ HasR y r := by
  obtain ⟨h1, h2, h3, h4⟩ := h
  unfold HasR
  rw [h1, h2, h3, h4]

end Go.Proofs.Ytgnjknboahcmgaa

/- The reference of layer 12, walked: Hold. -/
namespace Go.Proofs.Ytgnjknboahcmgaa
set_option maxRecDepth 100000
open Go.RowKit

end Go.Proofs.Ytgnjknboahcmgaa

/- The reference of layer 4, walked: May, Number, Encode, Of, Decode. -/
namespace Go.Proofs.Ytgnjknboahcmgaa
open Go.RowKit

def NumPost (v : Int) (n : Nat) (w : World) (r : Ending) (w' : World) : Prop := r = .returned (.string (leS v n)) ∧ Below w.heap.size w w'
theorem rtag_number (v : Int) (n : Nat) (w : World) (h1 : 1 ≤ n) (h2 : n ≤ 8) (v0 : 0 ≤ v) (v1 : v < p2 (8 * n)) (v2 : v ≤ 9223372036854775807) :
    Calls Try.prog 38 #[.int .i64 v, .int .i64 n] w (NumPost v n w) := by
  have HV := Lib.hid v1
  clear v1
  go_enter Try.func38, Try.ntmps38
  go_wp2_with fail
  refine (rput_fit v n _ h1 h2 v0 HV.out).mono ?_
  rintro r w1 ⟨rfl, hb1⟩
  have HB1 := Lib.hid hb1
  clear hb1
  go_wp2_with fail
  go_ret
  exact ⟨rfl, HB1.out⟩

/-- the tag's copy lies in this block, and nothing below has turned -/
def KT (k l q e : Int) (w w' : World) : Prop := w'.cell? ⟨w.heap.size, 0, none⟩ = some (.int .i64 k) ∧ w'.cell? ⟨w.heap.size, 1, none⟩ = some (.int .i64 l) ∧ w'.cell? ⟨w.heap.size, 2, none⟩ = some (.int .i64 q) ∧ w'.cell? ⟨w.heap.size, 3, none⟩ = some (.int .i64 e) ∧ Below w.heap.size w w'
theorem KT.first (k l q e : Int) (w : World) (ty : TypeId) : KT k l q e w (w.alloc (.cells #[.int .i64 k, .int .i64 l, .int .i64 q, .int .i64 e] ty)) :=
  ⟨by rw [World.cell?_alloc_new]; rfl, by rw [World.cell?_alloc_new]; rfl, by rw [World.cell?_alloc_new]; rfl, by rw [World.cell?_alloc_new]; rfl, (Below.refl _ _).alloc (Nat.le_refl _) _⟩
theorem KT.drew {k l q e : Int} {w w' : World} (h : KT k l q e w w') : KT k l q e w w'.drew := ⟨h.1, h.2.1, h.2.2.1, h.2.2.2.1, h.2.2.2.2.drew⟩
theorem KT.call {k l q e : Int} {w w1 w2 : World} (h : KT k l q e w w1) (hb : Below w1.heap.size w1 w2) : KT k l q e w w2 :=
  ⟨(hb.cell (cell_lt h.1)).trans h.1, (hb.cell (cell_lt h.2.1)).trans h.2.1, (hb.cell (cell_lt h.2.2.1)).trans h.2.2.1, (hb.cell (cell_lt h.2.2.2.1)).trans h.2.2.2.1, h.2.2.2.2.trans (hb.mono h.2.2.2.2.size)⟩
theorem KT.alloc {k l q e : Int} {w w1 : World} (h : KT k l q e w w1) (o : Obj) : KT k l q e w (w1.alloc o) := h.call ((Below.refl _ _).alloc (Nat.le_refl _) _)

end Go.Proofs.Ytgnjknboahcmgaa

/- The reference of layer 11, walked: May, Put, Take. -/
namespace Go.Proofs.Ytgnjknboahcmgaa
set_option maxRecDepth 100000
open Go.RowKit

theorem rrec_may (k a b : Int) (w : World) : Calls Try.prog 27 #[.agg (ra k a b)] w (MayP k a b w) := by
  unfold MayP ra
  go_enter Try.func27, Try.ntmps27
  go_wp2
  all_goals go_ret
  all_goals refine ⟨ret_bool ?_, (Below.refl _ _).alloc (Nat.le_refl _) _⟩
  all_goals rw [Bool.eq_iff_iff, mayR_iff]; unfold MayR
  all_goals simp only [beq_iff_eq, beq_eq_false_iff_ne, ne_eq, decide_eq_true_eq, true_iff, false_iff, Bool.false_eq_true] at *
  all_goals first | omega | (simp only [true_and]; omega)

/-- the frame while the region PR runs -/
def BasePR (B : Nat) (a : Act) : Prop := ∃ u : Nat → Value, a = ⟨#[u 0, .pointer (some ⟨B, 0, none⟩), u 2, u 3, u 4, u 5, u 6, u 7, u 8, u 9, u 10, u 11, u 12, u 13, u 14, u 15, u 16, u 17], []⟩
theorem BasePR.of {B : Nat} (arr : Array Value) (h : arr = #[arr.getD 0 undef, .pointer (some ⟨B, 0, none⟩), arr.getD 2 undef, arr.getD 3 undef, arr.getD 4 undef, arr.getD 5 undef, arr.getD 6 undef, arr.getD 7 undef, arr.getD 8 undef, arr.getD 9 undef, arr.getD 10 undef, arr.getD 11 undef, arr.getD 12 undef, arr.getD 13 undef, arr.getD 14 undef, arr.getD 15 undef, arr.getD 16 undef, arr.getD 17 undef]) : BasePR B ⟨arr, []⟩ := ⟨fun i => arr.getD i undef, by rw [← h]⟩
theorem BasePR.put7 {B : Nat} (a : Act) (v : Value) (h : BasePR B a) : BasePR B (a.put (some 7) v) := by
  obtain ⟨u, rfl⟩ := h
  exact ⟨fun i => if i = 7 then v else u i, by kernel_rfl⟩
theorem BasePR.put8 {B : Nat} (a : Act) (v : Value) (h : BasePR B a) : BasePR B (a.put (some 8) v) := by
  obtain ⟨u, rfl⟩ := h
  exact ⟨fun i => if i = 8 then v else u i, by kernel_rfl⟩
theorem BasePR.put9 {B : Nat} (a : Act) (v : Value) (h : BasePR B a) : BasePR B (a.put (some 9) v) := by
  obtain ⟨u, rfl⟩ := h
  exact ⟨fun i => if i = 9 then v else u i, by kernel_rfl⟩
theorem BasePR.put10 {B : Nat} (a : Act) (v : Value) (h : BasePR B a) : BasePR B (a.put (some 10) v) := by
  obtain ⟨u, rfl⟩ := h
  exact ⟨fun i => if i = 10 then v else u i, by kernel_rfl⟩
theorem BasePR.put11 {B : Nat} (a : Act) (v : Value) (h : BasePR B a) : BasePR B (a.put (some 11) v) := by
  obtain ⟨u, rfl⟩ := h
  exact ⟨fun i => if i = 11 then v else u i, by kernel_rfl⟩
theorem BasePR.put12 {B : Nat} (a : Act) (v : Value) (h : BasePR B a) : BasePR B (a.put (some 12) v) := by
  obtain ⟨u, rfl⟩ := h
  exact ⟨fun i => if i = 12 then v else u i, by kernel_rfl⟩
theorem BasePR.put13 {B : Nat} (a : Act) (v : Value) (h : BasePR B a) : BasePR B (a.put (some 13) v) := by
  obtain ⟨u, rfl⟩ := h
  exact ⟨fun i => if i = 13 then v else u i, by kernel_rfl⟩
theorem BasePR.put14 {B : Nat} (a : Act) (v : Value) (h : BasePR B a) : BasePR B (a.put (some 14) v) := by
  obtain ⟨u, rfl⟩ := h
  exact ⟨fun i => if i = 14 then v else u i, by kernel_rfl⟩
theorem BasePR.put15 {B : Nat} (a : Act) (v : Value) (h : BasePR B a) : BasePR B (a.put (some 15) v) := by
  obtain ⟨u, rfl⟩ := h
  exact ⟨fun i => if i = 15 then v else u i, by kernel_rfl⟩
theorem BasePR.put16 {B : Nat} (a : Act) (v : Value) (h : BasePR B a) : BasePR B (a.put (some 16) v) := by
  obtain ⟨u, rfl⟩ := h
  exact ⟨fun i => if i = 16 then v else u i, by kernel_rfl⟩
theorem BasePR.put17 {B : Nat} (a : Act) (v : Value) (h : BasePR B a) : BasePR B (a.put (some 17) v) := by
  obtain ⟨u, rfl⟩ := h
  exact ⟨fun i => if i = 17 then v else u i, by kernel_rfl⟩
theorem BasePR.put2 {B : Nat} (a : Act) (v : Value) (h : BasePR B a) : BasePR B (a.put (some 2) v) := by
  obtain ⟨u, rfl⟩ := h
  exact ⟨fun i => if i = 2 then v else u i, by kernel_rfl⟩
theorem BasePR.put3 {B : Nat} (a : Act) (v : Value) (h : BasePR B a) : BasePR B (a.put (some 3) v) := by
  obtain ⟨u, rfl⟩ := h
  exact ⟨fun i => if i = 3 then v else u i, by kernel_rfl⟩
/-- the frame while the region TR runs -/
def BaseTR (s : ByteArray) (B : Nat) (a : Act) : Prop := ∃ u : Nat → Value, a = ⟨#[.string s, u 1, .pointer (some ⟨B, 0, none⟩), u 3, u 4, u 5, u 6, u 7, u 8, u 9, u 10, u 11, u 12, u 13, u 14, u 15, u 16, u 17, u 18, u 19, u 20, u 21, u 22, u 23], []⟩
theorem BaseTR.of {s : ByteArray} {B : Nat} (arr : Array Value) (h : arr = #[.string s, arr.getD 1 undef, .pointer (some ⟨B, 0, none⟩), arr.getD 3 undef, arr.getD 4 undef, arr.getD 5 undef, arr.getD 6 undef, arr.getD 7 undef, arr.getD 8 undef, arr.getD 9 undef, arr.getD 10 undef, arr.getD 11 undef, arr.getD 12 undef, arr.getD 13 undef, arr.getD 14 undef, arr.getD 15 undef, arr.getD 16 undef, arr.getD 17 undef, arr.getD 18 undef, arr.getD 19 undef, arr.getD 20 undef, arr.getD 21 undef, arr.getD 22 undef, arr.getD 23 undef]) : BaseTR s B ⟨arr, []⟩ := ⟨fun i => arr.getD i undef, by rw [← h]⟩
theorem BaseTR.put9 {s : ByteArray} {B : Nat} (a : Act) (v : Value) (h : BaseTR s B a) : BaseTR s B (a.put (some 9) v) := by
  obtain ⟨u, rfl⟩ := h
  exact ⟨fun i => if i = 9 then v else u i, by kernel_rfl⟩
theorem BaseTR.put10 {s : ByteArray} {B : Nat} (a : Act) (v : Value) (h : BaseTR s B a) : BaseTR s B (a.put (some 10) v) := by
  obtain ⟨u, rfl⟩ := h
  exact ⟨fun i => if i = 10 then v else u i, by kernel_rfl⟩
theorem BaseTR.put11 {s : ByteArray} {B : Nat} (a : Act) (v : Value) (h : BaseTR s B a) : BaseTR s B (a.put (some 11) v) := by
  obtain ⟨u, rfl⟩ := h
  exact ⟨fun i => if i = 11 then v else u i, by kernel_rfl⟩
theorem BaseTR.put12 {s : ByteArray} {B : Nat} (a : Act) (v : Value) (h : BaseTR s B a) : BaseTR s B (a.put (some 12) v) := by
  obtain ⟨u, rfl⟩ := h
  exact ⟨fun i => if i = 12 then v else u i, by kernel_rfl⟩
theorem BaseTR.put13 {s : ByteArray} {B : Nat} (a : Act) (v : Value) (h : BaseTR s B a) : BaseTR s B (a.put (some 13) v) := by
  obtain ⟨u, rfl⟩ := h
  exact ⟨fun i => if i = 13 then v else u i, by kernel_rfl⟩
theorem BaseTR.put14 {s : ByteArray} {B : Nat} (a : Act) (v : Value) (h : BaseTR s B a) : BaseTR s B (a.put (some 14) v) := by
  obtain ⟨u, rfl⟩ := h
  exact ⟨fun i => if i = 14 then v else u i, by kernel_rfl⟩
theorem BaseTR.put15 {s : ByteArray} {B : Nat} (a : Act) (v : Value) (h : BaseTR s B a) : BaseTR s B (a.put (some 15) v) := by
  obtain ⟨u, rfl⟩ := h
  exact ⟨fun i => if i = 15 then v else u i, by kernel_rfl⟩
theorem BaseTR.put16 {s : ByteArray} {B : Nat} (a : Act) (v : Value) (h : BaseTR s B a) : BaseTR s B (a.put (some 16) v) := by
  obtain ⟨u, rfl⟩ := h
  exact ⟨fun i => if i = 16 then v else u i, by kernel_rfl⟩
theorem BaseTR.put17 {s : ByteArray} {B : Nat} (a : Act) (v : Value) (h : BaseTR s B a) : BaseTR s B (a.put (some 17) v) := by
  obtain ⟨u, rfl⟩ := h
  exact ⟨fun i => if i = 17 then v else u i, by kernel_rfl⟩
theorem BaseTR.put18 {s : ByteArray} {B : Nat} (a : Act) (v : Value) (h : BaseTR s B a) : BaseTR s B (a.put (some 18) v) := by
  obtain ⟨u, rfl⟩ := h
  exact ⟨fun i => if i = 18 then v else u i, by kernel_rfl⟩
theorem BaseTR.put4 {s : ByteArray} {B : Nat} (a : Act) (v : Value) (h : BaseTR s B a) : BaseTR s B (a.put (some 4) v) := by
  obtain ⟨u, rfl⟩ := h
  exact ⟨fun i => if i = 4 then v else u i, by kernel_rfl⟩

end Go.Proofs.Ytgnjknboahcmgaa

/- The reference of layer 12, walked: Unpack. -/
namespace Go.Proofs.Ytgnjknboahcmgaa
set_option maxRecDepth 100000
open Go.RowKit

theorem info_partsX {P : Program} {t : TypeId} {z : Option Value} {a b : Nat} (h : (P.info? t).map (fun i => (i.zero, i.size, i.bytes)) = some (z, a, b)) : ∃ i, P.info? t = some i ∧ i.zero = z ∧ i.size = a ∧ i.bytes = b := by
  cases hi : P.info? t with
  | none => rw [hi] at h; cases h
  | some i =>
    rw [hi] at h
    simp only [Option.map_some, Option.some.injEq, Prod.mk.injEq] at h
    exact ⟨i, rfl, h.1, h.2.1, h.2.2⟩
theorem cells_newX (w : World) (cs : Array Value) (t : TypeId) : ∀ (j : Nat) (u : Value), cs.toList[j]? = some u → (w.alloc (.cells cs t)).cell? ((⟨w.heap.size, 0, none⟩ : Addr).add j) = some u := by
  intro j u hu
  have h := (Blk.new w cs t).cell j
  have e : ((⟨w.heap.size, 0, none⟩ : Addr).add j) = ⟨w.heap.size, j, none⟩ := by cases j <;> simp [Addr.add]
  rw [e, h]
  simpa using hu
theorem own_belowX {wr w1 : World} {B n : Nat} {v : Value} {xs : List Value} {E : TypeId} {o : Obj} {z : Nat} (hown : wr.ownsRow B E z v n xs) (hB : B ≤ wr.heap.size) (hgrow : (wr.alloc o).grownBy w1 v.ownBlock) : Below B wr w1 := by
  refine Below.grown (row := v.ownBlock) ((Below.refl _ _).alloc hB _) hgrow (by simp; omega) ?_
  intro g hg
  exact (hown.lt g hg).1

end Go.Proofs.Ytgnjknboahcmgaa

/- The reference of layer 12, walked: Pack. -/
namespace Go.Proofs.Ytgnjknboahcmgaa
set_option maxRecDepth 100000
open Go.RowKit

/-- a page of n bytes that holds these records -/
def padT (s : ByteArray) (j : Nat) : ByteArray := ⟨(bs s ++ List.replicate j 0).toArray⟩
theorem padT_zero (s : ByteArray) : padT s 0 = s := by apply bytes_eq; simp [padT, bs]
theorem padT_size (s : ByteArray) (j : Nat) : (padT s j).size = s.size + j := by show (bs s ++ List.replicate j 0).length = _; rw [List.length_append, bs_length, List.length_replicate]
theorem padT_step (s : ByteArray) (j : Nat) : padT s (j + 1) = padT s j ++ ⟨#[0]⟩ := by
  apply bytes_eq
  rw [ByteArray.data_append, Array.toList_append]
  show bs s ++ List.replicate (j + 1) 0 = (bs s ++ List.replicate j 0) ++ [0]
  rw [List.replicate_succ', List.append_assoc]
def strV (l : List ByteArray) : List Value := l.map Value.string

theorem conv_one (c : Int) (w : World) : Sem.run Try.prog (convert 71 9 (.slice (some ⟨w.heap.size, 0, none⟩) 1 1)) (w.alloc (.cells #[.int .u8 c] 5)) = .ok (.string ⟨#[UInt8.ofNat c.toNat]⟩) (w.alloc (.cells #[.int .u8 c] 5)) := by
  have h : BytesAt (w.alloc (.cells #[.int .u8 c] 5)) w.heap.size [c] := by
    intro i hi
    obtain rfl : i = 0 := by simpa using hi
    rw [World.cell?_alloc_new]; rfl
  rw [h.conv Try.underlying71 Try.underlying5 Try.underlying9 1 1 rfl]
  rfl

theorem infoStr : (Try.prog.info? 9).map (fun i => (i.zero, i.size, i.bytes)) = some (some (.string ByteArray.empty), 1, 16) := by kernel_rfl
theorem strV_snoc (f : Nat → ByteArray) (p : Nat) : strV ((List.range (p + 1)).map f) = strV ((List.range p).map f) ++ [.string (f p)] := by
  rw [List.range_succ, List.map_append]; unfold strV; rw [List.map_append]; rfl

/-- the size of a string that is a value -/
def szV : Value → Nat
  | .string s => s.size
  | _ => 0

end Go.Proofs.Ytgnjknboahcmgaa

/- The book's comparisons of pages and of records. -/
namespace Go.Proofs.Ytgnjknboahcmgaa
set_option maxRecDepth 100000
open Go.RowKit

theorem below_drewX {B : Nat} {w wr : World} (h : Below B w wr) (q : Nat) : Below B w (wr.drewN q) := ⟨h.os, h.tape, h.output, h.size, h.block⟩
theorem cell_of_rowX {w : World} {B n z : Nat} {v : Value} {xs : List Value} {e : TypeId} {g cap : Nat} (h : w.ownsRow B e z v n xs) (hv : v = .slice (some ⟨g, 0, none⟩) n cap) (j : Nat) (u : Value) (hj : xs[j]? = some u) : w.cell? ⟨g, j, none⟩ = some u := by
  have h1 := h.cells (g := g) (by rw [hv]; rfl) j u hj
  cases j with
  | zero => simpa [Addr.add] using h1
  | succ k => simpa [Addr.add] using h1

/-- a slice of texts, wherever it lies -/
def TsAt (w : World) (v : Value) (l : List ByteArray) : Prop := ∃ (a : Option Addr) (cap : Nat), v = .slice a l.length cap ∧ ∀ k (hk : k < l.length), ∃ g o, a = some ⟨g, o, none⟩ ∧ w.cell? ⟨g, o + k, none⟩ = some (.string l[k])
theorem TsAt.below {w w' : World} {v : Value} {l : List ByteArray} (h : TsAt w v l) (hb : Below w.heap.size w w') : TsAt w' v l := by
  obtain ⟨a, cap, hv, hk⟩ := h
  refine ⟨a, cap, hv, fun k h => ?_⟩
  obtain ⟨g, o, ha, h1⟩ := hk k h
  exact ⟨g, o, ha, (hb.cell (p := ⟨g, o + k, none⟩) (cell_lt h1)).trans h1⟩
theorem TsAt.own {w : World} {B n : Nat} {v : Value} {l : List ByteArray} (hn : n = l.length) (h : w.ownsRow B 9 1 v n (strV l)) : TsAt w v l := by
  subst hn
  have h0 := h
  rcases h.2 with ⟨hv, hz⟩ | ⟨g, cap, cur, hv, _⟩
  · exact ⟨none, 0, by rw [hv, hz], fun k hk => absurd hk (by omega)⟩
  · exact ⟨_, cap, hv, fun k hk => ⟨g, 0, rfl, by rw [Nat.zero_add]; exact cell_of_rowX h0 hv k _ (by unfold strV; simp [hk])⟩⟩

/-- a slice of records, as a value -/
def RsAt (w : World) (v : Value) (l : List Rc) : Prop := ∃ (a : Option Addr) (cap : Nat), v = .slice a l.length cap ∧ XsAt w a l
theorem RsAt.below {w w' : World} {v : Value} {l : List Rc} (h : RsAt w v l) (hb : Below w.heap.size w w') : RsAt w' v l := by
  obtain ⟨a, cap, hv, hk⟩ := h
  exact ⟨a, cap, hv, hk.below hb⟩
theorem RsAt.own {w : World} {B n : Nat} {v : Value} {l : List Rc} (hn : n = l.length) (h : w.ownsRow B 37 3 v n (flatX l)) : RsAt w v l := by
  subst hn
  have h0 := h
  rcases h.2 with ⟨hv, hz⟩ | ⟨g, cap, cur, hv, _, hg, _⟩
  · exact ⟨none, 0, by rw [hv, hz], fun hne => absurd (List.eq_nil_of_length_eq_zero hz) hne⟩
  · refine ⟨_, cap, hv, fun _ => ⟨g, 0, rfl, (Array.getElem?_eq_some_iff.1 hg).1, fun i hi j u hj => ?_⟩⟩
    have hj3 : j < 3 := by
      have h4 := (List.getElem?_eq_some_iff.1 hj).1
      rw [Rc.cells_len] at h4; exact h4
    have h5 := cell_of_rowX h0 hv (i * 3 + j) u (by rw [flatX_get l i j hi hj3]; exact hj)
    rw [Nat.zero_add]
    cases j with
    | zero => simpa [Addr.add] using h5
    | succ k => simpa [Addr.add] using h5

end Go.Proofs.Ytgnjknboahcmgaa

/- The book's spoilers of pages and of records. -/
namespace Go.Proofs.Ytgnjknboahcmgaa
set_option maxRecDepth 100000
open Go.RowKit

end Go.Proofs.Ytgnjknboahcmgaa

/- The book's comparisons of numbers, of texts and of what is durable, whatever they are; the spoiler of numbers. -/
namespace Go.Proofs.Ytgnjknboahcmgaa
set_option maxRecDepth 100000
open Go.RowKit

theorem prefix_eq {α : Type} {l l' : List α} (hlen : l.length = l'.length) (h : ∀ j (h1 : j < l.length) (h2 : j < l'.length), l[j] = l'[j]) : l = l' := List.ext_getElem hlen fun j h1 h2 => h j h1 h2

/-- two lists, as far as they have been held against one another -/
def SoFar {α : Type} (l l' : List α) (q : Bool) (k : Nat) : Prop := (q = true → ∀ j (h1 : j < l.length) (h2 : j < l'.length), j < k → l[j] = l'[j]) ∧ (q = false → l ≠ l')
theorem SoFar.zero {α : Type} (l l' : List α) : SoFar l l' true 0 := ⟨fun _ j _ _ hj => absurd hj (Nat.not_lt_zero _), fun h => by cases h⟩
theorem SoFar.yes {α : Type} {l l' : List α} {k : Nat} (h : SoFar l l' true k) (h1 : k < l.length) (h2 : k < l'.length) (he : l[k] = l'[k]) : SoFar l l' true (k + 1) :=
  ⟨fun _ j g1 g2 g3 => by
    rcases Nat.lt_or_ge j k with h5 | h5
    · exact h.1 rfl j g1 g2 h5
    · obtain rfl : j = k := by omega
      exact he, fun h => by cases h⟩
theorem SoFar.no {α : Type} {l l' : List α} {k : Nat} (h1 : k < l.length) (h2 : k < l'.length) (he : l[k] ≠ l'[k]) : SoFar l l' false (k + 1) :=
  ⟨(fun h => by cases h), fun _ h => he (by subst h; rfl)⟩

set_option maxHeartbeats 1000000 in
theorem book_ints (w : World) (u v : Value) (l l' : List Int) (hu : IvAt w u l) (hv : IvAt w v l') :
    Calls Try.prog 35 #[u, v] w fun e w' => e = .returned (.bool (decide (l = l'))) ∧ Below w.heap.size w w' := by
  obtain ⟨a, cap, rfl, hc, hs⟩ := hu
  obtain ⟨a', cap', rfl, hc', hs'⟩ := hv
  obtain ⟨n, hn⟩ : ∃ n, l.length = n := ⟨_, rfl⟩
  obtain ⟨n', hn'⟩ : ∃ n, l'.length = n := ⟨_, rfl⟩
  have hb : (n : Int) ≤ 9223372036854775807 ∧ (n' : Int) ≤ 9223372036854775807 := by unfold maxLen at hc hc'; omega
  have HS := Lib.hid hs
  have HS' := Lib.hid hs'
  have HN := Lib.hid hn
  have HN' := Lib.hid hn'
  rw [hn, hn']
  clear hs hs' hn hn' hc hc'
  by_cases hz : n = n'
  · subst hz
    go_enter Try.func35, Try.ntmps35
    go_wp2_with fail
    go_loopw [5, 6] (fun b i wr => ∃ (k : Nat) (q : Bool), k ≤ n ∧ i = .int .i64 k ∧ b = .bool q ∧ Hid (SoFar l l' q k) ∧ Hid (Below w.heap.size w wr)) (fun _ i _ => n + 1 - (intOf i).toNat)
    case atStart => exact ⟨0, true, Nat.zero_le _, rfl, rfl, SoFar.zero _ _, Below.refl _ _⟩
    case round =>
      obtain ⟨k, q, hk, rfl, rfl, HY, HB⟩ := hrel
      cases q
      · have HNE : Hid (decide (l = l') = false) := decide_eq_false (HY.out.2 rfl)
        clear HY
        go_wp2_with fail
        go_ret
        exact ⟨ret_bool HNE.out.symm, HB.out⟩
      · by_cases hlt : k < n
        · have hltz : (k : Int) < (n : Int) := by omega
          have hltd : decide ((k : Int) < (n : Int)) = true := decide_eq_true hltz
          have hkl : k < l.length := by have := HN.out; omega
          have hkl' : k < l'.length := by have := HN'.out; omega
          obtain ⟨g, o, rfl, hg, h1⟩ := HS.out (by intro h0; rw [h0] at hkl; exact absurd hkl (Nat.not_lt_zero _))
          obtain ⟨g', o', rfl, hg', h3⟩ := HS'.out (by intro h0; rw [h0] at hkl'; exact absurd hkl' (Nat.not_lt_zero _))
          have r1 := h1 k hkl
          have r3 := h3 k hkl'
          obtain ⟨x, hx⟩ : ∃ x, l[k] = x := ⟨_, rfl⟩
          obtain ⟨y, hy⟩ : ∃ y, l'[k] = y := ⟨_, rfl⟩
          rw [hx] at r1
          rw [hy] at r3
          have c1 := (HB.out.cell (p := ⟨g, o + k, none⟩) (cell_lt r1)).trans r1
          have c3 := (HB.out.cell (p := ⟨g', o' + k, none⟩) (cell_lt r3)).trans r3
          by_cases hxy : x = y
          · have HY2 : Hid (SoFar l l' true (k + 1)) := HY.out.yes hkl hkl' (by rw [hx, hy, hxy])
            have hxb : (x == y) = true := by simpa using hxy
            clear HY h1 h3 r1 r3 hx hy hg hg' hxy hkl hkl'
            go_wp2_with fail
            go_quiet (fail)
            go_wp2_with fail
            go_roundw
            case rel => exact ⟨k + 1, true, by omega, by go_num, rfl, HY2, below_drewX HB.out _⟩
            case measure => simp [intOf]; omega
          · have HY2 : Hid (SoFar l l' false (k + 1)) := SoFar.no hkl hkl' (by rw [hx, hy]; exact hxy)
            have hxb : (x == y) = false := by simpa using hxy
            clear HY h1 h3 r1 r3 hx hy hg hg' hxy hkl hkl'
            go_wp2_with fail
            go_quiet (fail)
            go_wp2_with fail
            go_roundw
            case rel => exact ⟨k + 1, false, by omega, by go_num, rfl, HY2, below_drewX HB.out _⟩
            case measure => simp [intOf]; omega
        · obtain rfl : k = n := by omega
          have hltz : ¬ (k : Int) < (k : Int) := by omega
          have hltd : decide ((k : Int) < (k : Int)) = false := decide_eq_false hltz
          have HE : Hid (decide (l = l') = true) := decide_eq_true (prefix_eq (HN.out.trans HN'.out.symm) fun j g1 g2 => HY.out.1 rfl j g1 g2 (by have := HN.out; omega))
          clear HY
          go_wp2_with fail
          go_ret
          exact ⟨ret_bool HE.out.symm, HB.out⟩
  · have hnb : ((n : Int) == (n' : Int)) = false := by simp; omega
    have HNE : Hid (decide (l = l') = false) := decide_eq_false (fun h => hz (by rw [← HN.out, ← HN'.out, h]))
    clear hz
    go_enter Try.func35, Try.ntmps35
    go_wp2_with fail
    go_loopw [5, 6] (fun b i wr => b = .bool false ∧ i = .int .i64 0 ∧ wr = w) (fun _ _ _ => 0)
    case atStart => exact ⟨rfl, rfl, rfl⟩
    case round =>
      obtain ⟨rfl, rfl, rfl⟩ := hrel
      go_wp2_with fail
      go_ret
      exact ⟨ret_bool HNE.out.symm, Below.refl _ _⟩

theorem sn_ext (x y : Sn) : x = y ↔ x.f = y.f ∧ x.c = y.c ∧ x.s = y.s ∧ x.t = y.t := by
  cases x; cases y; simp
instance : DecidableEq Sn := fun x y => decidable_of_iff _ (sn_ext x y).symm
theorem decide_sn (x y : Sn) : decide (x = y) = (decide (x.f = y.f) && (decide (x.c = y.c) && (decide (x.s = y.s) && decide (x.t = y.t)))) := by
  rw [Bool.eq_iff_iff]
  simp [sn_ext]

set_option maxHeartbeats 1000000 in
theorem book_state (w : World) (A A' : Array Value) (x y : Sn) (hA : SnAt w A x) (hA' : SnAt w A' y) :
    Calls Try.prog 17 #[.agg A, .agg A'] w fun e w' => e = .returned (.bool (decide (x = y))) ∧ Below w.heap.size w w' := by
  rw [decide_sn]
  obtain ⟨vf, vc, vs, vt, rfl, h1, h2, h3, h4⟩ := hA
  obtain ⟨vf', vc', vs', vt', rfl, h1', h2', h3', h4'⟩ := hA'
  obtain ⟨w2, hw2⟩ : ∃ w2, (w.alloc (.cells #[vf, vc, vs, vt] 32)).alloc (.cells #[vf', vc', vs', vt'] 32) = w2 := ⟨_, rfl⟩
  have hb : Below w.heap.size w w2 := by rw [← hw2]; exact ((Below.refl _ _).alloc (Nat.le_refl _) _).alloc (by simp) _
  have k1 : Blk w2 w.heap.size #[vf, vc, vs, vt] 32 := by rw [← hw2]; exact (Blk.new _ _ _).alloc _
  have k2 : Blk w2 (w.heap.size + 1) #[vf', vc', vs', vt'] 32 := by
    rw [← hw2]
    have h := Blk.new (w.alloc (.cells #[vf, vc, vs, vt] 32)) #[vf', vc', vs', vt'] 32
    rwa [World.size_alloc] at h
  have HB := Lib.hid hb
  have K1 := Lib.hid k1
  have K2 := Lib.hid k2
  have H1 := Lib.hid (book_ints w2 vf vf' x.f y.f (h1.below hb) (h1'.below hb))
  have H2 : Hid (∀ w3, Below w2.heap.size w2 w3 → Calls Try.prog 35 #[vc, vc'] w3 fun e w' => e = .returned (.bool (decide (x.c = y.c))) ∧ Below w3.heap.size w3 w') := fun w3 hb3 => book_ints w3 vc vc' x.c y.c ((h2.below hb).below hb3) ((h2'.below hb).below hb3)
  have H3 : Hid (∀ w3, Below w2.heap.size w2 w3 → Calls Try.prog 35 #[vs, vs'] w3 fun e w' => e = .returned (.bool (decide (x.s = y.s))) ∧ Below w3.heap.size w3 w') := fun w3 hb3 => book_ints w3 vs vs' x.s y.s ((h3.below hb).below hb3) ((h3'.below hb).below hb3)
  have H4 : Hid (∀ w3, Below w2.heap.size w2 w3 → Calls Try.prog 35 #[vt, vt'] w3 fun e w' => e = .returned (.bool (decide (x.t = y.t))) ∧ Below w3.heap.size w3 w') := fun w3 hb3 => book_ints w3 vt vt' x.t y.t ((h4.below hb).below hb3) ((h4'.below hb).below hb3)
  obtain ⟨q1, hq1⟩ : ∃ q, decide (x.f = y.f) = q := ⟨_, rfl⟩
  obtain ⟨q2, hq2⟩ : ∃ q, decide (x.c = y.c) = q := ⟨_, rfl⟩
  obtain ⟨q3, hq3⟩ : ∃ q, decide (x.s = y.s) = q := ⟨_, rfl⟩
  obtain ⟨q4, hq4⟩ : ∃ q, decide (x.t = y.t) = q := ⟨_, rfl⟩
  rw [hq1, hq2, hq3, hq4]
  rw [hq1] at H1
  simp only [hq2] at H2
  simp only [hq3] at H3
  simp only [hq4] at H4
  have HC : Hid (∀ w3, Below w2.heap.size w2 w3 → (w3.cell? ⟨w.heap.size, 0, none⟩ = some vf ∧ w3.cell? ⟨w.heap.size, 1, none⟩ = some vc ∧ w3.cell? ⟨w.heap.size, 2, none⟩ = some vs ∧ w3.cell? ⟨w.heap.size, 3, none⟩ = some vt) ∧
      w3.cell? ⟨w.heap.size + 1, 0, none⟩ = some vf' ∧ w3.cell? ⟨w.heap.size + 1, 1, none⟩ = some vc' ∧ w3.cell? ⟨w.heap.size + 1, 2, none⟩ = some vs' ∧ w3.cell? ⟨w.heap.size + 1, 3, none⟩ = some vt') := fun w3 hb3 =>
    ⟨⟨(k1.after hb3).cell 0, (k1.after hb3).cell 1, (k1.after hb3).cell 2, (k1.after hb3).cell 3⟩, (k2.after hb3).cell 0, (k2.after hb3).cell 1, (k2.after hb3).cell 2, (k2.after hb3).cell 3⟩
  have HBW : Hid (∀ w3, Below w2.heap.size w2 w3 → Below w.heap.size w w3) := fun w3 hb3 => hb.trans (hb3.mono hb.size)
  clear h1 h2 h3 h4 h1' h2' h3' h4' hb k1 k2 hq1 hq2 hq3 hq4 K1 K2
  obtain ⟨⟨c0, c1, c2, c3⟩, d0, d1, d2, d3⟩ := HC.out w2 (Below.refl _ _)
  go_enter Try.func17, Try.ntmps17
  go_wp2_with fail
  refine H1.out.mono ?_
  rintro e w3 ⟨rfl, hb3⟩
  clear c0 c1 c2 c3 d0 d1 d2 d3
  obtain ⟨⟨_, c1, c2, c3⟩, _, d1, d2, d3⟩ := HC.out w3 hb3
  have HB3 := Lib.hid hb3
  clear hb3 H1
  cases q1
  · go_wp2_with fail
    go_ret
    exact ⟨rfl, HBW.out _ HB3.out⟩
  · go_wp2_with fail
    refine (H2.out w3 HB3.out).mono ?_
    rintro e w4 ⟨rfl, hb4⟩
    have hb4' := HB3.out.trans (hb4.mono HB3.out.size)
    clear c1 c2 c3 d1 d2 d3
    obtain ⟨⟨_, c1, c2, c3⟩, _, d1, d2, d3⟩ := HC.out w4 hb4'
    have HB4 := Lib.hid hb4'
    clear hb4 hb4' H2
    cases q2
    · go_wp2_with fail
      go_ret
      exact ⟨rfl, HBW.out _ HB4.out⟩
    · go_wp2_with fail
      refine (H3.out w4 HB4.out).mono ?_
      rintro e w5 ⟨rfl, hb5⟩
      have hb5' := HB4.out.trans (hb5.mono HB4.out.size)
      clear c1 c2 c3 d1 d2 d3
      obtain ⟨⟨_, c1, c2, c3⟩, _, d1, d2, d3⟩ := HC.out w5 hb5'
      have HB5 := Lib.hid hb5'
      clear hb5 hb5' H3
      cases q3
      · go_wp2_with fail
        go_ret
        exact ⟨rfl, HBW.out _ HB5.out⟩
      · go_wp2_with fail
        refine (H4.out w5 HB5.out).mono ?_
        rintro e w6 ⟨rfl, hb6⟩
        have hb6' := HB5.out.trans (hb6.mono HB5.out.size)
        have HB6 := Lib.hid hb6'
        clear hb6 hb6' H4
        go_wp2_with fail
        go_ret
        exact ⟨rfl, HBW.out _ HB6.out⟩

end Go.Proofs.Ytgnjknboahcmgaa
