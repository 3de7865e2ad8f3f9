/- Put's refusals; the reference's Put, whose loop appends byte by byte. -/
import Derived.Test.YtcngmhodgpmjfaaBitsW3
namespace Go.Proofs.Ytcngmhodgpmjfaa
open Go.RowKit

theorem put_no (v n : Int) (w : World) (h : n < 1 ∨ 8 < n) :
    Calls Try.prog 10 #[.int .u64 v, .int .i64 n] w fun e w' => e = .returned (.tuple #[.string ByteArray.empty, .int .i64 1]) ∧ w = w' := by
  rcases h with h | h
  · go_enter Try.func10, Try.ntmps10
    go_wp2
    go_ret2
    exact ⟨rfl, rfl⟩
  · have h' : 1 ≤ n := by omega
    go_enter Try.func10, Try.ntmps10
    go_wp2
    go_ret2
    exact ⟨rfl, rfl⟩

theorem put_full (v : Int) (n : Nat) (w : World) (h1 : 1 ≤ n) (h2 : n ≤ 8) (h : (v / 2 ^ (8 * n) != 0) = true) :
    Calls Try.prog 10 #[.int .u64 v, .int .i64 n] w fun e w' => e = .returned (.tuple #[.string ByteArray.empty, .int .i64 1]) ∧ w = w' := by
  go_enter Try.func10, Try.ntmps10
  go_wp2
  go_ret2
  exact ⟨rfl, rfl⟩

theorem rput_no (v n : Int) (w : World) (h : n < 1 ∨ 8 < n) :
    Calls Try.prog 11 #[.int .u64 v, .int .i64 n] w fun e w' => e = .returned (.tuple #[.string ByteArray.empty, .int .i64 1]) ∧ w = w' := by
  rcases h with h | h
  · go_enter Try.func11, Try.ntmps11
    go_wp2
    go_ret2
    exact ⟨rfl, rfl⟩
  · have h' : 1 ≤ n := by omega
    go_enter Try.func11, Try.ntmps11
    go_wp2
    go_ret2
    exact ⟨rfl, rfl⟩

/-- what is left of a number when k bytes are taken -/
def rest : Int → Nat → Int
  | v, 0 => v
  | v, k + 1 => rest v k / 256
/-- its k lowest bytes, as numbers -/
def leI : Int → Nat → List Int
  | _, 0 => []
  | v, k + 1 => leI v k ++ [rest v k % 256]
theorem leI_length (v : Int) (k : Nat) : (leI v k).length = k := by
  induction k with
  | zero => rfl
  | succ k ih => simp [leI, ih]
theorem rest_bd (v : Int) (k : Nat) (h0 : 0 ≤ v) (h1 : v < 18446744073709551616) : 0 ≤ rest v k ∧ rest v k < 18446744073709551616 := by
  induction k with
  | zero => exact ⟨h0, h1⟩
  | succ k ih => simp only [rest]; omega
theorem rest_shift (k : Nat) : ∀ v, rest v (k + 1) = rest (v / 256) k := by
  induction k with
  | zero => intro v; rfl
  | succ k ih => intro v; show rest v (k + 1) / 256 = rest (v / 256) k / 256; rw [ih]
theorem leI_shift (k : Nat) : ∀ v, leI v (k + 1) = v % 256 :: leI (v / 256) k := by
  induction k with
  | zero => intro v; rfl
  | succ k ih => intro v; show leI v (k + 1) ++ [rest v (k + 1) % 256] = _; rw [ih, rest_shift]; rfl
theorem leI_le (k : Nat) : ∀ v, (leI v k).map (fun n => UInt8.ofNat n.toNat) = le v k := by
  induction k with
  | zero => intro v; rfl
  | succ k ih => intro v; rw [leI_shift, le, List.map_cons, ih]
theorem rest_p2 (v : Int) (k : Nat) : rest v k = v / p2 (8 * k) := by
  induction k with
  | zero => show v = v / p2 0; rw [p2_zero]; omega
  | succ k ih =>
    show rest v k / 256 = _
    rw [ih, show 8 * (k + 1) = 8 * k + 8 by omega, p2_add, show p2 8 = 256 from rfl, Int.ediv_ediv_of_nonneg (by have := p2_pos (8 * k); omega)]

theorem rel_put {w wr w1 : World} {v v' : Int} {b : Value} {k : Nat} (ho : w1.ownsRow w.heap.size 5 1 b (k + 1) ((leI v k).map (Value.int .u8) ++ [.int .u8 v'])) (hv : v' = rest v k % 256)
    (hb : Below w.heap.size w wr) (hg : Below w.heap.size wr w1) :
    w1.ownsRow w.heap.size 5 1 b (k + 1) ((leI v (k + 1)).map (Value.int .u8)) ∧ Below w.heap.size w w1 := by
  refine ⟨?_, hb.trans hg⟩
  simpa [leI, hv] using ho

/-- the post of the reference's Put: the bytes, or nothing -/
def putRes (v : Int) (n : Nat) : Array Value := if rest v n = 0 then #[.string (leS v n), .int .i64 0] else #[.string ByteArray.empty, .int .i64 1]
def PutPost (v : Int) (n : Nat) (w : World) (e : Ending) (w' : World) : Prop := e = .returned (.tuple (putRes v n)) ∧ Below w.heap.size w w'

theorem Try.info5 : (Try.prog.info? 5).map (fun i => (i.zero, i.size, i.bytes)) = some (some (.int .u8 0), 1, 1) := by kernel_rfl

set_option maxRecDepth 100000 in
theorem rput_any (v : Int) (n : Nat) (w : World) (h1 : 1 ≤ n) (h2 : n ≤ 8) (v0 : 0 ≤ v) (v1 : v < 18446744073709551616) :
    Calls Try.prog 11 #[.int .u64 v, .int .i64 n] w (PutPost v n w) := by
  obtain ⟨i0, hi, hz0, hz1, hz2⟩ := info_parts Try.info5
  go_enter Try.func11, Try.ntmps11
  go_wp2
  go_loopw [0, 6, 7] (fun x b i wr => ∃ k : Nat, k ≤ n ∧ i = .int .i64 k ∧ x = .int .u64 (rest v k) ∧ wr.ownsRow w.heap.size 5 1 b k ((leI v k).map (Value.int .u8)) ∧ Below w.heap.size w wr) (fun _ _ i _ => n - (intOf i).toNat)
  case atStart => exact ⟨0, Nat.zero_le _, rfl, rfl, ⟨rfl, Or.inl ⟨rfl, rfl⟩⟩, Below.refl _ _⟩
  case round =>
    obtain ⟨k, hk, rfl, rfl, hown, hb⟩ := hrel
    have hr := rest_bd v k v0 v1
    by_cases hlt : k < n
    · go_wp2_with (at_builtin; refine wpList_append_own _ rfl _ _ 45 rfl w.heap.size 5 i0 (.int .u8 0) 1 1 Try.underlying45 hi hz0 hz1 hz2 rfl (by decide) _ _ _ rfl (hown.alloc _) ⟨wr.heap.size, 0, none⟩ 1 1 [.int .u8 (rest v k % 256)] rfl rfl ?c1 ?c2 ?c3 ?c4 ?c5 ?_)
      case c1 => exact cell_one_new _ _ _
      case c2 => intro u hu; simp at hu; subst hu; rfl
      case c3 => unfold maxLen; omega
      case c4 => omega
      case c5 => have := hb.size; simp; omega
      intro v' w1 hown1 hgrow _
      have hbw : Below w.heap.size wr w1 := by
        refine Below.grown (row := u6.ownBlock) ((Below.refl _ _).alloc hb.size _) hgrow (by have := hb.size; simp; omega) ?_
        intro g hg
        exact hown.2.elim (fun h => by rw [h.1] at hg; simp [Value.ownBlock] at hg) (fun ⟨g', _, _, h, hge, _⟩ => by rw [h] at hg; simp [Value.ownBlock] at hg; omega)
      have HR := Lib.hid (rel_put hown1 rfl hb hbw)
      clear hown1 hgrow hbw hown
      go_wp2
      go_roundw
      case rel => exact ⟨k + 1, by omega, by go_num, rfl, HR.out.1, HR.out.2⟩
      case measure => simp [intOf]; omega
    · obtain rfl : k = n := by omega
      have hcv := conv_owned (P := Try.prog) (src := 45) (e := 5) (dst := 9) Try.underlying45 Try.underlying5 Try.underlying9 hown
      have HS : Hid (strOfNums (leI v k) = leS v k) := strOfNums_eq _ _ (leI_le k v)
      have hbw := Lib.hid hb
      clear hb hown
      by_cases hz : rest v k = 0
      · have HP : Hid (putRes v k = #[.string (leS v k), .int .i64 0]) := if_pos hz
        go_wp2
        go_ret2
        exact ⟨ret_tup (by rw [HP.out, ← HS.out]; rfl), hbw.out⟩
      · have HP : Hid (putRes v k = #[.string ByteArray.empty, .int .i64 1]) := if_neg hz
        have hpos : 0 < rest v k := by omega
        go_wp2
        go_ret2
        exact ⟨ret_tup (by rw [HP.out]; rfl), hbw.out⟩

end Go.Proofs.Ytcngmhodgpmjfaa
