/- The reference of layer 1, as far as later layers lean on it: Put, Get. -/
import Derived.Test.YtklbmlnghindjaaDoorKit
import Derived.Test.YtklbmlnghindjaaDoorBitsM
import Derived.Handy
import Derived.Laws.BytesArg
namespace Go.Proofs.YtklbmlnghindjaaDoor
open Go.RowKit

/-- a number's n lowest bytes, the lowest first -/
def le : Int → Nat → List UInt8
  | _, 0 => []
  | v, n + 1 => UInt8.ofNat (v % 256).toNat :: le (v / 256) n
theorem le_length (n : Nat) : ∀ v, (le v n).length = n := by
  induction n with
  | zero => intro v; rfl
  | succ n ih => intro v; simp [le, ih]
def leS (v : Int) (n : Nat) : ByteArray := ⟨(le v n).toArray⟩

/-- what is left of a number when k bytes are taken -/
def rest : Int → Nat → Int
  | v, 0 => v
  | v, k + 1 => rest v k / 256
/-- its k lowest bytes, as numbers -/
def leI : Int → Nat → List Int
  | _, 0 => []
  | v, k + 1 => leI v k ++ [rest v k % 256]
theorem leI_length (v : Int) (k : Nat) : (leI v k).length = k := by
  induction k with
  | zero => rfl
  | succ k ih => simp [leI, ih]
theorem rest_bd (v : Int) (k : Nat) (h0 : 0 ≤ v) (h1 : v < 18446744073709551616) : 0 ≤ rest v k ∧ rest v k < 18446744073709551616 := by
  induction k with
  | zero => exact ⟨h0, h1⟩
  | succ k ih => simp only [rest]; omega
theorem rest_shift (k : Nat) : ∀ v, rest v (k + 1) = rest (v / 256) k := by
  induction k with
  | zero => intro v; rfl
  | succ k ih => intro v; show rest v (k + 1) / 256 = rest (v / 256) k / 256; rw [ih]
theorem leI_shift (k : Nat) : ∀ v, leI v (k + 1) = v % 256 :: leI (v / 256) k := by
  induction k with
  | zero => intro v; rfl
  | succ k ih => intro v; show leI v (k + 1) ++ [rest v (k + 1) % 256] = _; rw [ih, rest_shift]; rfl
theorem leI_le (k : Nat) : ∀ v, (leI v k).map (fun n => UInt8.ofNat n.toNat) = le v k := by
  induction k with
  | zero => intro v; rfl
  | succ k ih => intro v; rw [leI_shift, le, List.map_cons, ih]
theorem bytes_eq {a b : ByteArray} (h : a.data.toList = b.data.toList) : a = b := by
  cases a; cases b
  simp only at h
  congr 1
  exact Array.toList_inj.1 h
theorem rest_p2 (v : Int) (k : Nat) : rest v k = v / p2 (8 * k) := by
  induction k with
  | zero => show v = v / p2 0; rw [p2_zero]; omega
  | succ k ih =>
    show rest v k / 256 = _
    rw [ih, show 8 * (k + 1) = 8 * k + 8 by omega, p2_add, show p2 8 = 256 from rfl, Int.ediv_ediv_of_nonneg (by have := p2_pos (8 * k); omega)]

theorem rel_put {w wr w1 : World} {v v' : Int} {b : Value} {k : Nat} (ho : w1.ownsRow w.heap.size 5 1 b (k + 1) ((leI v k).map (Value.int .u8) ++ [.int .u8 v'])) (hv : v' = rest v k % 256)
    (hb : Below w.heap.size w wr) (hg : Below w.heap.size wr w1) :
    w1.ownsRow w.heap.size 5 1 b (k + 1) ((leI v (k + 1)).map (Value.int .u8)) ∧ Below w.heap.size w w1 := by
  refine ⟨?_, hb.trans hg⟩
  simpa [leI, hv] using ho

/-- the post of the reference's Put: the bytes, or nothing -/
def putRes (v : Int) (n : Nat) : Array Value := if rest v n = 0 then #[.string (leS v n), .int .i64 0] else #[.string ByteArray.empty, .int .i64 1]
def PutPost (v : Int) (n : Nat) (w : World) (e : Ending) (w' : World) : Prop := e = .returned (.tuple (putRes v n)) ∧ Below w.heap.size w w'

theorem Tryd.info5 : (Tryd.prog.info? 5).map (fun i => (i.zero, i.size, i.bytes)) = some (some (.int .u8 0), 1, 1) := by kernel_rfl

/-- the number whose bytes these are, the lowest first -/
def num : List UInt8 → Int
  | [] => 0
  | b :: l => (b.toNat : Int) + 256 * num l
theorem num_bd (l : List UInt8) : 0 ≤ num l ∧ num l < p2 (8 * l.length) := by
  induction l with
  | nil => exact ⟨Int.le_refl 0, by decide⟩
  | cons b l ih =>
    have hb : b.toNat < 256 := b.toNat_lt
    have e : p2 (8 * (b :: l).length) = 256 * p2 (8 * l.length) := by
      rw [List.length_cons, show 8 * (l.length + 1) = 8 + 8 * l.length by omega, p2_add]; rfl
    rw [e]; simp only [num]; omega
theorem num_snoc (b : UInt8) : ∀ l, num (l ++ [b]) = num l + (b.toNat : Int) * p2 (8 * l.length) := by
  intro l
  induction l with
  | nil => simp [num, p2_zero]
  | cons c l ih =>
    have e : p2 (8 * (c :: l).length) = 256 * p2 (8 * l.length) := by
      rw [List.length_cons, show 8 * (l.length + 1) = 8 + 8 * l.length by omega, p2_add]; rfl
    show (c.toNat : Int) + 256 * num (l ++ [b]) = (c.toNat : Int) + 256 * num l + (b.toNat : Int) * p2 (8 * (c :: l).length)
    rw [ih, e, Int.mul_add, Int.mul_left_comm]; omega
theorem take_snoc (s : ByteArray) (k : Nat) (h : k < s.size) : s.data.toList.take (k + 1) = s.data.toList.take k ++ [s[k]] := by
  rw [List.take_succ_eq_append_getElem (by simpa using h)]; rfl
theorem take_len (s : ByteArray) (k : Nat) (h : k ≤ s.size) : (s.data.toList.take k).length = k := by
  rw [List.length_take]; have : s.data.toList.length = s.size := by simp
  omega
def numTo (s : ByteArray) (k : Nat) : Int := num (s.data.toList.take k)
theorem numTo_zero (s : ByteArray) : numTo s 0 = 0 := rfl
theorem numTo_bd (s : ByteArray) (k : Nat) (h : k ≤ s.size) : 0 ≤ numTo s k ∧ numTo s k < p2 (8 * k) := by
  have := num_bd (s.data.toList.take k); rwa [take_len s k h] at this
theorem numTo_succ (s : ByteArray) (k : Nat) (h : k < s.size) : numTo s (k + 1) = numTo s k + (s[k].toNat : Int) * p2 (8 * k) := by
  unfold numTo; rw [take_snoc s k h, num_snoc, take_len s k (by omega)]
theorem byte_room (c : UInt8) (k : Nat) (h : k < 8) : (c.toNat : Int) * p2 (8 * k) < p2 64 ∧ 0 ≤ (c.toNat : Int) * p2 (8 * k) := by
  have hb : c.toNat < 256 := c.toNat_lt
  have hp := p2_pos (8 * k)
  have h1 : (c.toNat : Int) * p2 (8 * k) < 256 * p2 (8 * k) := Int.mul_lt_mul_of_pos_right (by omega) hp
  have h2 : 256 * p2 (8 * k) ≤ p2 64 := by
    have : p2 (8 + 8 * k) ≤ p2 64 := p2_le (by omega)
    rwa [p2_add] at this
  exact ⟨by omega, Int.mul_nonneg (by omega) (by omega)⟩
theorem wrap_byte (c : UInt8) : IntKind.u64.wrap (c.toNat : Int) = c.toNat := by
  have hb : c.toNat < 256 := c.toNat_lt
  rw [IntKind.wrap_u64]; omega
/-- the place's power of 256, as it is kept in 64 bits -/
def pp (k : Nat) : Int := lo (p2 (8 * k)) 64
theorem pp_zero : pp 0 = 1 := by decide
theorem pp_succ (k : Nat) : IntKind.u64.wrap (pp k * 256) = pp (k + 1) := by
  unfold pp; rw [wrap_lo]
  unfold lo
  rw [Int.mul_emod, Int.emod_emod_of_dvd _ (Int.dvd_refl _), ← Int.mul_emod, show 8 * (k + 1) = 8 * k + 8 by omega, p2_add]; rfl
theorem rget_step (s : ByteArray) (k : Nat) (h : k < s.size) (hs : k < 8) :
    IntKind.u64.wrap (numTo s k + IntKind.u64.wrap (IntKind.u64.wrap (s[k].toNat : Int) * pp k)) = numTo s (k + 1) := by
  have hb := numTo_bd s k (by omega)
  have hb2 := numTo_bd s (k + 1) (by omega)
  have hr := byte_room s[k] k hs
  have hp : pp k = p2 (8 * k) := lo_all _ _ (by have := p2_pos (8 * k); omega) (by
    have h1 : p2 (8 * k) < p2 (8 * k) * 2 := by have := p2_pos (8 * k); omega
    rw [← p2_succ] at h1
    have h2 : p2 (8 * k + 1) ≤ p2 64 := p2_le (by omega)
    omega)
  have h64 : p2 (8 * (k + 1)) ≤ p2 64 := p2_le (by omega)
  rw [numTo_succ s k h] at *
  rw [hp, wrap_byte, wrap_lo (_ * _), lo_all _ 64 hr.2 hr.1, wrap_lo, lo_all _ 64 (by omega) (by omega)]
def numS (s : ByteArray) : Int := numTo s s.size

theorem rget_yes (s : ByteArray) (w : World) (h1 : 1 ≤ s.size) (h2 : s.size ≤ 8) :
    Calls Tryd.prog 35 #[.string s] w fun e w' => e = .returned (.tuple #[.int .u64 (numS s), .int .i64 0]) ∧ w = w' := by
  go_enter Tryd.func35, Tryd.ntmps35
  go_wp2
  go_loop [4, 5, 6] (fun t p i => ∃ k : Nat, k ≤ s.size ∧ i = .int .i64 k ∧ t = .int .u64 (numTo s k) ∧ p = .int .u64 (pp k)) (fun _ _ i => s.size - (intOf i).toNat)
  case atStart => exact ⟨0, Nat.zero_le _, rfl, by rw [numTo_zero], by rw [pp_zero]⟩
  case round =>
    obtain ⟨k, hk, rfl, rfl, rfl⟩ := hrel
    by_cases hlt : k < s.size
    · have HG := Lib.hid (rget_step s k hlt (by omega))
      have HP := Lib.hid (pp_succ k)
      go_wp2
      go_round
      case rel => exact ⟨k + 1, by omega, by go_num, by rw [← HG.out], by rw [← HP.out]⟩
      case measure => simp [intOf]; omega
    · obtain rfl : k = s.size := by omega
      go_wp2
      go_ret2
      exact ⟨rfl, rfl⟩

theorem num_le (m : Nat) : ∀ v : Int, num (le v m) + p2 (8 * m) * rest v m = v := by
  induction m with
  | zero => intro v; show (0 : Int) + p2 0 * v = v; rw [p2_zero]; omega
  | succ m ih =>
    intro v
    have h := ih (v / 256)
    have hb : (UInt8.ofNat (v % 256).toNat).toNat = (v % 256).toNat := by
      rw [UInt8.toNat_ofNat']; omega
    show ((UInt8.ofNat (v % 256).toNat).toNat : Int) + 256 * num (le (v / 256) m) + p2 (8 * (m + 1)) * rest v (m + 1) = v
    rw [hb, rest_shift, show 8 * (m + 1) = 8 + 8 * m by omega, p2_add, show p2 8 = 256 from rfl, Int.mul_assoc]
    omega
theorem le_num : ∀ l : List UInt8, le (num l) l.length = l
  | [] => rfl
  | b :: l => by
    have hb : b.toNat < 256 := b.toNat_lt
    have e1 : (num (b :: l) % 256).toNat = b.toNat := by simp only [num]; omega
    have e2 : num (b :: l) / 256 = num l := by simp only [num]; omega
    rw [List.length_cons, le, e1, e2, le_num l, UInt8.ofNat_toNat]
theorem rest_num (l : List UInt8) : num l / p2 (8 * l.length) = 0 := by
  have h := num_bd l
  exact Int.ediv_eq_zero_of_lt h.1 h.2
theorem size_toList (s : ByteArray) : s.data.toList.length = s.size := by simp
theorem numS_eq (s : ByteArray) : numS s = num s.data.toList := by
  unfold numS numTo
  rw [List.take_of_length_le (by rw [size_toList]; omega)]
theorem leS_numS (s : ByteArray) : leS (numS s) s.size = s := by
  unfold leS
  rw [numS_eq, ← size_toList s, le_num]
theorem leS_size (v : Int) (m : Nat) : (leS v m).size = m := by
  show (le v m).toArray.size = m
  rw [List.size_toArray, le_length]
theorem numS_leS (v : Int) (m : Nat) (h : rest v m = 0) : numS (leS v m) = v := by
  have h2 := num_le m v
  rw [h] at h2
  rw [numS_eq]
  show num (le v m) = v
  omega
end Go.Proofs.YtklbmlnghindjaaDoor
