/- Contracts of package bits, as far as later layers lean on them: Put of a number that fits, Get. -/
import Derived.Test.YtklbmlnghindjaaDoorRef1P
namespace Go.Proofs.YtklbmlnghindjaaDoor
open Go.RowKit

theorem conv8 (c0 c1 c2 c3 c4 c5 c6 c7 : Int) (W : World) (n : Nat) (hn : n ≤ 8) :
    Sem.run Tryd.prog (convert 56 9 (.slice (some ⟨W.heap.size, 0, none⟩) n 8)) (W.alloc (.cells #[.int .u8 c0, .int .u8 c1, .int .u8 c2, .int .u8 c3, .int .u8 c4, .int .u8 c5, .int .u8 c6, .int .u8 c7] 75))
      = .ok (.string (strOfNums ([c0, c1, c2, c3, c4, c5, c6, c7].take n))) (W.alloc (.cells #[.int .u8 c0, .int .u8 c1, .int .u8 c2, .int .u8 c3, .int .u8 c4, .int .u8 c5, .int .u8 c6, .int .u8 c7] 75)) := by
  refine run_convert_bytes_arg (P := Tryd.prog) _ 56 5 Tryd.underlying56 Tryd.underlying5 W.heap.size 0 n 8 ([c0, c1, c2, c3, c4, c5, c6, c7].take n) (by simp; omega) ?_ 9 Tryd.underlying9
  intro i hi
  rw [Nat.zero_add, World.cell?_alloc_new]
  have h8 : i < 8 := by omega
  rcases i with _ | _ | _ | _ | _ | _ | _ | _ | i
  all_goals first | omega | simp [List.getD, hi]

theorem str_1 (v : Int) (v0 : 0 ≤ v) (v1 : v < 256) : strOfNums [v] = leS v 1 := by
  have l : v % 256 = v := by omega
  unfold strOfNums leS
  simp only [le, List.map, l]

theorem str_2 (v : Int) (v0 : 0 ≤ v) (v1 : v < 65536) : strOfNums [v % 256, v / 256] = leS v 2 := by
  have l : v / 256 % 256 = v / 256 := by omega
  unfold strOfNums leS
  simp only [le, List.map, l]

theorem str_3 (v : Int) (v0 : 0 ≤ v) (v1 : v < 16777216) : strOfNums [v % 256, v / 256 % 256, v / 65536] = leS v 3 := by
  have e2 : v / 256 / 256 = v / 65536 := by omega
  have l : v / 65536 % 256 = v / 65536 := by omega
  unfold strOfNums leS
  simp only [le, List.map, e2, l]

theorem str_4 (v : Int) (v0 : 0 ≤ v) (v1 : v < 4294967296) : strOfNums [v % 256, v / 256 % 256, v / 65536 % 256, v / 16777216] = leS v 4 := by
  have e2 : v / 256 / 256 = v / 65536 := by omega
  have e3 : v / 65536 / 256 = v / 16777216 := by omega
  have l : v / 16777216 % 256 = v / 16777216 := by omega
  unfold strOfNums leS
  simp only [le, List.map, e2, e3, l]

theorem str_5 (v : Int) (v0 : 0 ≤ v) (v1 : v < 1099511627776) : strOfNums [v % 256, v / 256 % 256, v / 65536 % 256, v / 16777216 % 256, v / 4294967296] = leS v 5 := by
  have e2 : v / 256 / 256 = v / 65536 := by omega
  have e3 : v / 65536 / 256 = v / 16777216 := by omega
  have e4 : v / 16777216 / 256 = v / 4294967296 := by omega
  have l : v / 4294967296 % 256 = v / 4294967296 := by omega
  unfold strOfNums leS
  simp only [le, List.map, e2, e3, e4, l]

theorem str_6 (v : Int) (v0 : 0 ≤ v) (v1 : v < 281474976710656) : strOfNums [v % 256, v / 256 % 256, v / 65536 % 256, v / 16777216 % 256, v / 4294967296 % 256, v / 1099511627776] = leS v 6 := by
  have e2 : v / 256 / 256 = v / 65536 := by omega
  have e3 : v / 65536 / 256 = v / 16777216 := by omega
  have e4 : v / 16777216 / 256 = v / 4294967296 := by omega
  have e5 : v / 4294967296 / 256 = v / 1099511627776 := by omega
  have l : v / 1099511627776 % 256 = v / 1099511627776 := by omega
  unfold strOfNums leS
  simp only [le, List.map, e2, e3, e4, e5, l]

theorem str_7 (v : Int) (v0 : 0 ≤ v) (v1 : v < 72057594037927936) : strOfNums [v % 256, v / 256 % 256, v / 65536 % 256, v / 16777216 % 256, v / 4294967296 % 256, v / 1099511627776 % 256, v / 281474976710656] = leS v 7 := by
  have e2 : v / 256 / 256 = v / 65536 := by omega
  have e3 : v / 65536 / 256 = v / 16777216 := by omega
  have e4 : v / 16777216 / 256 = v / 4294967296 := by omega
  have e5 : v / 4294967296 / 256 = v / 1099511627776 := by omega
  have e6 : v / 1099511627776 / 256 = v / 281474976710656 := by omega
  have l : v / 281474976710656 % 256 = v / 281474976710656 := by omega
  unfold strOfNums leS
  simp only [le, List.map, e2, e3, e4, e5, e6, l]

theorem str_8 (v : Int) (v0 : 0 ≤ v) (v1 : v < 18446744073709551616) : strOfNums [v % 256, v / 256 % 256, v / 65536 % 256, v / 16777216 % 256, v / 4294967296 % 256, v / 1099511627776 % 256, v / 281474976710656 % 256, v / 72057594037927936] = leS v 8 := by
  have e2 : v / 256 / 256 = v / 65536 := by omega
  have e3 : v / 65536 / 256 = v / 16777216 := by omega
  have e4 : v / 16777216 / 256 = v / 4294967296 := by omega
  have e5 : v / 4294967296 / 256 = v / 1099511627776 := by omega
  have e6 : v / 1099511627776 / 256 = v / 281474976710656 := by omega
  have e7 : v / 281474976710656 / 256 = v / 72057594037927936 := by omega
  have l : v / 72057594037927936 % 256 = v / 72057594037927936 := by omega
  unfold strOfNums leS
  simp only [le, List.map, e2, e3, e4, e5, e6, e7, l]

set_option maxRecDepth 100000 in
theorem put_1 (v : Int) (w : World) (v0 : 0 ≤ v) (v1 : v < 256) :
    Calls Tryd.prog 41 #[.int .u64 v, .int .i64 1] w fun e w' => e = .returned (.tuple #[.string (leS v 1), .int .i64 0]) ∧ Below w.heap.size w w' := by
  have hc := fun (c0 c1 c2 c3 c4 c5 c6 c7 : Int) => conv8 c0 c1 c2 c3 c4 c5 c6 c7 w 1 (by decide)
  go_enter Tryd.func41, Tryd.ntmps41
  go_wp2
  go_rounds 2
  go_ret2
  exact ⟨ret_str (str_1 v v0 v1), (Below.refl _ _).alloc (Nat.le_refl _) _⟩

set_option maxRecDepth 100000 in
theorem put_2 (v : Int) (w : World) (v0 : 0 ≤ v) (v1 : v < 65536) :
    Calls Tryd.prog 41 #[.int .u64 v, .int .i64 2] w fun e w' => e = .returned (.tuple #[.string (leS v 2), .int .i64 0]) ∧ Below w.heap.size w w' := by
  have hc := fun (c0 c1 c2 c3 c4 c5 c6 c7 : Int) => conv8 c0 c1 c2 c3 c4 c5 c6 c7 w 2 (by decide)
  go_enter Tryd.func41, Tryd.ntmps41
  go_wp2
  go_rounds 3
  go_ret2
  exact ⟨ret_str (str_2 v v0 v1), (Below.refl _ _).alloc (Nat.le_refl _) _⟩

set_option maxRecDepth 100000 in
theorem put_3 (v : Int) (w : World) (v0 : 0 ≤ v) (v1 : v < 16777216) :
    Calls Tryd.prog 41 #[.int .u64 v, .int .i64 3] w fun e w' => e = .returned (.tuple #[.string (leS v 3), .int .i64 0]) ∧ Below w.heap.size w w' := by
  have hc := fun (c0 c1 c2 c3 c4 c5 c6 c7 : Int) => conv8 c0 c1 c2 c3 c4 c5 c6 c7 w 3 (by decide)
  go_enter Tryd.func41, Tryd.ntmps41
  go_wp2
  go_rounds 4
  go_ret2
  exact ⟨ret_str (str_3 v v0 v1), (Below.refl _ _).alloc (Nat.le_refl _) _⟩

set_option maxRecDepth 100000 in
theorem put_4 (v : Int) (w : World) (v0 : 0 ≤ v) (v1 : v < 4294967296) :
    Calls Tryd.prog 41 #[.int .u64 v, .int .i64 4] w fun e w' => e = .returned (.tuple #[.string (leS v 4), .int .i64 0]) ∧ Below w.heap.size w w' := by
  have hc := fun (c0 c1 c2 c3 c4 c5 c6 c7 : Int) => conv8 c0 c1 c2 c3 c4 c5 c6 c7 w 4 (by decide)
  go_enter Tryd.func41, Tryd.ntmps41
  go_wp2
  go_rounds 5
  go_ret2
  exact ⟨ret_str (str_4 v v0 v1), (Below.refl _ _).alloc (Nat.le_refl _) _⟩

set_option maxRecDepth 100000 in
theorem put_5 (v : Int) (w : World) (v0 : 0 ≤ v) (v1 : v < 1099511627776) :
    Calls Tryd.prog 41 #[.int .u64 v, .int .i64 5] w fun e w' => e = .returned (.tuple #[.string (leS v 5), .int .i64 0]) ∧ Below w.heap.size w w' := by
  have hc := fun (c0 c1 c2 c3 c4 c5 c6 c7 : Int) => conv8 c0 c1 c2 c3 c4 c5 c6 c7 w 5 (by decide)
  go_enter Tryd.func41, Tryd.ntmps41
  go_wp2
  go_rounds 6
  go_ret2
  exact ⟨ret_str (str_5 v v0 v1), (Below.refl _ _).alloc (Nat.le_refl _) _⟩

set_option maxRecDepth 100000 in
theorem put_6 (v : Int) (w : World) (v0 : 0 ≤ v) (v1 : v < 281474976710656) :
    Calls Tryd.prog 41 #[.int .u64 v, .int .i64 6] w fun e w' => e = .returned (.tuple #[.string (leS v 6), .int .i64 0]) ∧ Below w.heap.size w w' := by
  have hc := fun (c0 c1 c2 c3 c4 c5 c6 c7 : Int) => conv8 c0 c1 c2 c3 c4 c5 c6 c7 w 6 (by decide)
  go_enter Tryd.func41, Tryd.ntmps41
  go_wp2
  go_rounds 7
  go_ret2
  exact ⟨ret_str (str_6 v v0 v1), (Below.refl _ _).alloc (Nat.le_refl _) _⟩

set_option maxRecDepth 100000 in
theorem put_7 (v : Int) (w : World) (v0 : 0 ≤ v) (v1 : v < 72057594037927936) :
    Calls Tryd.prog 41 #[.int .u64 v, .int .i64 7] w fun e w' => e = .returned (.tuple #[.string (leS v 7), .int .i64 0]) ∧ Below w.heap.size w w' := by
  have hc := fun (c0 c1 c2 c3 c4 c5 c6 c7 : Int) => conv8 c0 c1 c2 c3 c4 c5 c6 c7 w 7 (by decide)
  go_enter Tryd.func41, Tryd.ntmps41
  go_wp2
  go_rounds 8
  go_ret2
  exact ⟨ret_str (str_7 v v0 v1), (Below.refl _ _).alloc (Nat.le_refl _) _⟩

set_option maxRecDepth 100000 in
theorem put_8 (v : Int) (w : World) (v0 : 0 ≤ v) (v1 : v < 18446744073709551616) :
    Calls Tryd.prog 41 #[.int .u64 v, .int .i64 8] w fun e w' => e = .returned (.tuple #[.string (leS v 8), .int .i64 0]) ∧ Below w.heap.size w w' := by
  have hc := fun (c0 c1 c2 c3 c4 c5 c6 c7 : Int) => conv8 c0 c1 c2 c3 c4 c5 c6 c7 w 8 (by decide)
  go_enter Tryd.func41, Tryd.ntmps41
  go_wp2
  go_rounds 9
  go_ret2
  exact ⟨ret_str (str_8 v v0 v1), (Below.refl _ _).alloc (Nat.le_refl _) _⟩

theorem or_addr (x y : Int) (a : Nat) (ha : a ≤ 64) (hy : y % p2 a = 0) (hy0 : 0 ≤ y) (hy1 : y < p2 64) (hx0 : 0 ≤ x) (hx1 : x < p2 a) : bits .or .u64 x y = x + y := by
  have hle := p2_le ha
  have h := or_add y x a ha hy hy0 hy1 hx0 hx1
  have h64 := p2_64
  obtain ⟨x, rfl⟩ := Int.eq_ofNat_of_zero_le hx0
  obtain ⟨y, rfl⟩ := Int.eq_ofNat_of_zero_le hy0
  rw [bits_or_u64_nat y x (by omega) (by omega)] at h
  rw [bits_or_u64_nat x y (by omega) (by omega), Nat.or_comm, h]; omega
theorem get_step (s : ByteArray) (k : Nat) (h : k < s.size) (hs : k < 8) :
    bits .or .u64 (numTo s k) (IntKind.u64.wrap (IntKind.u64.wrap (s[k].toNat : Int) * p2 (8 * k))) = numTo s (k + 1) := by
  have hb := numTo_bd s k (by omega)
  have hr := byte_room s[k] k hs
  rw [wrap_byte, wrap_lo, lo_all _ 64 hr.2 hr.1, or_addr _ _ (8 * k) (by omega) (Int.mul_emod_left _ _) hr.2 hr.1 hb.1 hb.2, numTo_succ s k h]

theorem get_yes (s : ByteArray) (w : World) (h1 : 1 ≤ s.size) (h2 : s.size ≤ 8) :
    Calls Tryd.prog 40 #[.string s] w fun e w' => e = .returned (.tuple #[.int .u64 (numS s), .int .i64 0]) ∧ w = w' := by
  go_enter Tryd.func40, Tryd.ntmps40
  go_wp2
  go_loop [4, 16] (fun t i => ∃ k : Nat, k ≤ s.size ∧ i = .int .i64 k ∧ t = .int .u64 (numTo s k)) (fun _ i => s.size - (intOf i).toNat)
  case atStart => exact ⟨0, Nat.zero_le _, rfl, by rw [numTo_zero]⟩
  case round =>
    obtain ⟨k, hk, rfl, rfl⟩ := hrel
    by_cases hlt : k < s.size
    · have HG := Lib.hid (get_step s k hlt (by omega))
      go_wp2
      go_round
      case rel => exact ⟨k + 1, by omega, by go_num, by rw [← HG.out]; rfl⟩
      case measure => simp [intOf]; omega
    · obtain rfl : k = s.size := by omega
      go_wp2
      go_ret2
      exact ⟨rfl, rfl⟩

theorem put_fit (v : Int) (n : Nat) (w : World) (h1 : 1 ≤ n) (h2 : n ≤ 8) (v0 : 0 ≤ v) (hv : v < p2 (8 * n)) :
    Calls Tryd.prog 41 #[.int .u64 v, .int .i64 n] w fun e w' => e = .returned (.tuple #[.string (leS v n), .int .i64 0]) ∧ Below w.heap.size w w' := by
  obtain rfl | rfl | rfl | rfl | rfl | rfl | rfl | rfl : n = 1 ∨ n = 2 ∨ n = 3 ∨ n = 4 ∨ n = 5 ∨ n = 6 ∨ n = 7 ∨ n = 8 := by omega
  · exact put_1 v w v0 (by rw [show p2 (8 * 1) = 256 by decide] at hv; exact hv)
  · exact put_2 v w v0 (by rw [show p2 (8 * 2) = 65536 by decide] at hv; exact hv)
  · exact put_3 v w v0 (by rw [show p2 (8 * 3) = 16777216 by decide] at hv; exact hv)
  · exact put_4 v w v0 (by rw [show p2 (8 * 4) = 4294967296 by decide] at hv; exact hv)
  · exact put_5 v w v0 (by rw [show p2 (8 * 5) = 1099511627776 by decide] at hv; exact hv)
  · exact put_6 v w v0 (by rw [show p2 (8 * 6) = 281474976710656 by decide] at hv; exact hv)
  · exact put_7 v w v0 (by rw [show p2 (8 * 7) = 72057594037927936 by decide] at hv; exact hv)
  · exact put_8 v w v0 (by rw [show p2 (8 * 8) = 18446744073709551616 by decide] at hv; exact hv)

end Go.Proofs.YtklbmlnghindjaaDoor
