/- Contracts of Put and Get, and of the reference's: numbers as bytes, the lowest first. -/
import Derived.Test.YtcngmhodgpmjfaaBitsW1
import Derived.Handy
import Derived.Laws.BytesArg
namespace Go.Proofs.Ytcngmhodgpmjfaa
open Go.RowKit

/-- a number's n lowest bytes, the lowest first -/
def le : Int → Nat → List UInt8
  | _, 0 => []
  | v, n + 1 => UInt8.ofNat (v % 256).toNat :: le (v / 256) n
theorem le_length (n : Nat) : ∀ v, (le v n).length = n := by
  induction n with
  | zero => intro v; rfl
  | succ n ih => intro v; simp [le, ih]
def leS (v : Int) (n : Nat) : ByteArray := ⟨(le v n).toArray⟩

theorem conv8 (c0 c1 c2 c3 c4 c5 c6 c7 : Int) (W : World) (n : Nat) (hn : n ≤ 8) :
    Sem.run Try.prog (convert 45 9 (.slice (some ⟨W.heap.size, 0, none⟩) n 8)) (W.alloc (.cells #[.int .u8 c0, .int .u8 c1, .int .u8 c2, .int .u8 c3, .int .u8 c4, .int .u8 c5, .int .u8 c6, .int .u8 c7] 44))
      = .ok (.string (strOfNums ([c0, c1, c2, c3, c4, c5, c6, c7].take n))) (W.alloc (.cells #[.int .u8 c0, .int .u8 c1, .int .u8 c2, .int .u8 c3, .int .u8 c4, .int .u8 c5, .int .u8 c6, .int .u8 c7] 44)) := by
  refine run_convert_bytes_arg (P := Try.prog) _ 45 5 Try.underlying45 Try.underlying5 W.heap.size 0 n 8 ([c0, c1, c2, c3, c4, c5, c6, c7].take n) (by simp; omega) ?_ 9 Try.underlying9
  intro i hi
  rw [Nat.zero_add, World.cell?_alloc_new]
  have h8 : i < 8 := by omega
  rcases i with _ | _ | _ | _ | _ | _ | _ | _ | i
  all_goals first | omega | simp [List.getD, hi]

theorem str_1 (v : Int) (v0 : 0 ≤ v) (v1 : v < 256) : strOfNums [v] = leS v 1 := by
  have l : v % 256 = v := by omega
  unfold strOfNums leS
  simp only [le, List.map, l]

theorem str_2 (v : Int) (v0 : 0 ≤ v) (v1 : v < 65536) : strOfNums [v % 256, v / 256] = leS v 2 := by
  have l : v / 256 % 256 = v / 256 := by omega
  unfold strOfNums leS
  simp only [le, List.map, l]

theorem str_3 (v : Int) (v0 : 0 ≤ v) (v1 : v < 16777216) : strOfNums [v % 256, v / 256 % 256, v / 65536] = leS v 3 := by
  have e2 : v / 256 / 256 = v / 65536 := by omega
  have l : v / 65536 % 256 = v / 65536 := by omega
  unfold strOfNums leS
  simp only [le, List.map, e2, l]

theorem str_4 (v : Int) (v0 : 0 ≤ v) (v1 : v < 4294967296) : strOfNums [v % 256, v / 256 % 256, v / 65536 % 256, v / 16777216] = leS v 4 := by
  have e2 : v / 256 / 256 = v / 65536 := by omega
  have e3 : v / 65536 / 256 = v / 16777216 := by omega
  have l : v / 16777216 % 256 = v / 16777216 := by omega
  unfold strOfNums leS
  simp only [le, List.map, e2, e3, l]

theorem str_5 (v : Int) (v0 : 0 ≤ v) (v1 : v < 1099511627776) : strOfNums [v % 256, v / 256 % 256, v / 65536 % 256, v / 16777216 % 256, v / 4294967296] = leS v 5 := by
  have e2 : v / 256 / 256 = v / 65536 := by omega
  have e3 : v / 65536 / 256 = v / 16777216 := by omega
  have e4 : v / 16777216 / 256 = v / 4294967296 := by omega
  have l : v / 4294967296 % 256 = v / 4294967296 := by omega
  unfold strOfNums leS
  simp only [le, List.map, e2, e3, e4, l]

theorem str_6 (v : Int) (v0 : 0 ≤ v) (v1 : v < 281474976710656) : strOfNums [v % 256, v / 256 % 256, v / 65536 % 256, v / 16777216 % 256, v / 4294967296 % 256, v / 1099511627776] = leS v 6 := by
  have e2 : v / 256 / 256 = v / 65536 := by omega
  have e3 : v / 65536 / 256 = v / 16777216 := by omega
  have e4 : v / 16777216 / 256 = v / 4294967296 := by omega
  have e5 : v / 4294967296 / 256 = v / 1099511627776 := by omega
  have l : v / 1099511627776 % 256 = v / 1099511627776 := by omega
  unfold strOfNums leS
  simp only [le, List.map, e2, e3, e4, e5, l]

theorem str_7 (v : Int) (v0 : 0 ≤ v) (v1 : v < 72057594037927936) : strOfNums [v % 256, v / 256 % 256, v / 65536 % 256, v / 16777216 % 256, v / 4294967296 % 256, v / 1099511627776 % 256, v / 281474976710656] = leS v 7 := by
  have e2 : v / 256 / 256 = v / 65536 := by omega
  have e3 : v / 65536 / 256 = v / 16777216 := by omega
  have e4 : v / 16777216 / 256 = v / 4294967296 := by omega
  have e5 : v / 4294967296 / 256 = v / 1099511627776 := by omega
  have e6 : v / 1099511627776 / 256 = v / 281474976710656 := by omega
  have l : v / 281474976710656 % 256 = v / 281474976710656 := by omega
  unfold strOfNums leS
  simp only [le, List.map, e2, e3, e4, e5, e6, l]

theorem str_8 (v : Int) (v0 : 0 ≤ v) (v1 : v < 18446744073709551616) : strOfNums [v % 256, v / 256 % 256, v / 65536 % 256, v / 16777216 % 256, v / 4294967296 % 256, v / 1099511627776 % 256, v / 281474976710656 % 256, v / 72057594037927936] = leS v 8 := by
  have e2 : v / 256 / 256 = v / 65536 := by omega
  have e3 : v / 65536 / 256 = v / 16777216 := by omega
  have e4 : v / 16777216 / 256 = v / 4294967296 := by omega
  have e5 : v / 4294967296 / 256 = v / 1099511627776 := by omega
  have e6 : v / 1099511627776 / 256 = v / 281474976710656 := by omega
  have e7 : v / 281474976710656 / 256 = v / 72057594037927936 := by omega
  have l : v / 72057594037927936 % 256 = v / 72057594037927936 := by omega
  unfold strOfNums leS
  simp only [le, List.map, e2, e3, e4, e5, e6, e7, l]

set_option maxRecDepth 100000 in
theorem put_1 (v : Int) (w : World) (v0 : 0 ≤ v) (v1 : v < 256) :
    Calls Try.prog 10 #[.int .u64 v, .int .i64 1] w fun e w' => e = .returned (.tuple #[.string (leS v 1), .int .i64 0]) ∧ Below w.heap.size w w' := by
  have hc := fun (c0 c1 c2 c3 c4 c5 c6 c7 : Int) => conv8 c0 c1 c2 c3 c4 c5 c6 c7 w 1 (by decide)
  go_enter Try.func10, Try.ntmps10
  go_wp2
  go_rounds 2
  go_ret2
  exact ⟨ret_str (str_1 v v0 v1), (Below.refl _ _).alloc (Nat.le_refl _) _⟩

set_option maxRecDepth 100000 in
theorem put_2 (v : Int) (w : World) (v0 : 0 ≤ v) (v1 : v < 65536) :
    Calls Try.prog 10 #[.int .u64 v, .int .i64 2] w fun e w' => e = .returned (.tuple #[.string (leS v 2), .int .i64 0]) ∧ Below w.heap.size w w' := by
  have hc := fun (c0 c1 c2 c3 c4 c5 c6 c7 : Int) => conv8 c0 c1 c2 c3 c4 c5 c6 c7 w 2 (by decide)
  go_enter Try.func10, Try.ntmps10
  go_wp2
  go_rounds 3
  go_ret2
  exact ⟨ret_str (str_2 v v0 v1), (Below.refl _ _).alloc (Nat.le_refl _) _⟩

set_option maxRecDepth 100000 in
theorem put_3 (v : Int) (w : World) (v0 : 0 ≤ v) (v1 : v < 16777216) :
    Calls Try.prog 10 #[.int .u64 v, .int .i64 3] w fun e w' => e = .returned (.tuple #[.string (leS v 3), .int .i64 0]) ∧ Below w.heap.size w w' := by
  have hc := fun (c0 c1 c2 c3 c4 c5 c6 c7 : Int) => conv8 c0 c1 c2 c3 c4 c5 c6 c7 w 3 (by decide)
  go_enter Try.func10, Try.ntmps10
  go_wp2
  go_rounds 4
  go_ret2
  exact ⟨ret_str (str_3 v v0 v1), (Below.refl _ _).alloc (Nat.le_refl _) _⟩

set_option maxRecDepth 100000 in
theorem put_4 (v : Int) (w : World) (v0 : 0 ≤ v) (v1 : v < 4294967296) :
    Calls Try.prog 10 #[.int .u64 v, .int .i64 4] w fun e w' => e = .returned (.tuple #[.string (leS v 4), .int .i64 0]) ∧ Below w.heap.size w w' := by
  have hc := fun (c0 c1 c2 c3 c4 c5 c6 c7 : Int) => conv8 c0 c1 c2 c3 c4 c5 c6 c7 w 4 (by decide)
  go_enter Try.func10, Try.ntmps10
  go_wp2
  go_rounds 5
  go_ret2
  exact ⟨ret_str (str_4 v v0 v1), (Below.refl _ _).alloc (Nat.le_refl _) _⟩

set_option maxRecDepth 100000 in
theorem put_5 (v : Int) (w : World) (v0 : 0 ≤ v) (v1 : v < 1099511627776) :
    Calls Try.prog 10 #[.int .u64 v, .int .i64 5] w fun e w' => e = .returned (.tuple #[.string (leS v 5), .int .i64 0]) ∧ Below w.heap.size w w' := by
  have hc := fun (c0 c1 c2 c3 c4 c5 c6 c7 : Int) => conv8 c0 c1 c2 c3 c4 c5 c6 c7 w 5 (by decide)
  go_enter Try.func10, Try.ntmps10
  go_wp2
  go_rounds 6
  go_ret2
  exact ⟨ret_str (str_5 v v0 v1), (Below.refl _ _).alloc (Nat.le_refl _) _⟩

set_option maxRecDepth 100000 in
theorem put_6 (v : Int) (w : World) (v0 : 0 ≤ v) (v1 : v < 281474976710656) :
    Calls Try.prog 10 #[.int .u64 v, .int .i64 6] w fun e w' => e = .returned (.tuple #[.string (leS v 6), .int .i64 0]) ∧ Below w.heap.size w w' := by
  have hc := fun (c0 c1 c2 c3 c4 c5 c6 c7 : Int) => conv8 c0 c1 c2 c3 c4 c5 c6 c7 w 6 (by decide)
  go_enter Try.func10, Try.ntmps10
  go_wp2
  go_rounds 7
  go_ret2
  exact ⟨ret_str (str_6 v v0 v1), (Below.refl _ _).alloc (Nat.le_refl _) _⟩

set_option maxRecDepth 100000 in
theorem put_7 (v : Int) (w : World) (v0 : 0 ≤ v) (v1 : v < 72057594037927936) :
    Calls Try.prog 10 #[.int .u64 v, .int .i64 7] w fun e w' => e = .returned (.tuple #[.string (leS v 7), .int .i64 0]) ∧ Below w.heap.size w w' := by
  have hc := fun (c0 c1 c2 c3 c4 c5 c6 c7 : Int) => conv8 c0 c1 c2 c3 c4 c5 c6 c7 w 7 (by decide)
  go_enter Try.func10, Try.ntmps10
  go_wp2
  go_rounds 8
  go_ret2
  exact ⟨ret_str (str_7 v v0 v1), (Below.refl _ _).alloc (Nat.le_refl _) _⟩

set_option maxRecDepth 100000 in
theorem put_8 (v : Int) (w : World) (v0 : 0 ≤ v) (v1 : v < 18446744073709551616) :
    Calls Try.prog 10 #[.int .u64 v, .int .i64 8] w fun e w' => e = .returned (.tuple #[.string (leS v 8), .int .i64 0]) ∧ Below w.heap.size w w' := by
  have hc := fun (c0 c1 c2 c3 c4 c5 c6 c7 : Int) => conv8 c0 c1 c2 c3 c4 c5 c6 c7 w 8 (by decide)
  go_enter Try.func10, Try.ntmps10
  go_wp2
  go_rounds 9
  go_ret2
  exact ⟨ret_str (str_8 v v0 v1), (Below.refl _ _).alloc (Nat.le_refl _) _⟩

end Go.Proofs.Ytcngmhodgpmjfaa
