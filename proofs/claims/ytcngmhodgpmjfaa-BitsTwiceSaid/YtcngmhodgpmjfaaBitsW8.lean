/- The chapter's examples, which each law runs: they come out true. -/
import Derived.Test.YtcngmhodgpmjfaaBitsW2
import Derived.Test.YtcngmhodgpmjfaaBitsW7
namespace Go.Proofs.Ytcngmhodgpmjfaa
open Go.RowKit

theorem ex_put2 (w : World) : Calls Try.prog 10 #[.int .u64 258, .int .i64 2] w fun e w' => e = .returned (.tuple #[.string ⟨#[2, 1]⟩, .int .i64 0]) ∧ Below w.heap.size w w' := by
  have h := put_2 258 w (by decide) (by decide)
  rwa [show leS 258 2 = ⟨#[2, 1]⟩ by decide] at h
theorem ex_put1 (w : World) : Calls Try.prog 10 #[.int .u64 258, .int .i64 1] w fun e w' => e = .returned (.tuple #[.string ByteArray.empty, .int .i64 1]) ∧ w = w' :=
  put_full 258 1 w (by decide) (by decide) (by decide)
theorem ex_sign (w : World) : Calls Try.prog 15 #[.int .u64 7, .int .i64 3] w fun e w' => e = .returned (.tuple #[.int .i64 (-1), .int .i64 0]) ∧ w = w' := by
  have h := sign_yes 7 3 w (by decide) (by decide)
  rwa [show sg 7 (3 : Int).toNat = -1 by decide] at h
theorem ex_narrow (w : World) : Calls Try.prog 17 #[.int .i64 (-1), .int .i64 3] w fun e w' => e = .returned (.tuple #[.int .u64 7, .bool true]) ∧ w = w' := by
  have h := narrow_yes (-1) 3 w (by decide) (by decide) (by decide)
  rwa [show lo (-1) (3 : Int).toNat = 7 by decide] at h
theorem ex_turn (w : World) : Calls Try.prog 19 #[.int .u64 1, .int .i64 (-1)] w fun e w' => e = .returned (.int .u64 9223372036854775808) ∧ w = w' := by
  have h := turn_any 1 (-1) w (by decide) (by decide)
  rwa [show rot 1 (far (-1)) = 9223372036854775808 by decide] at h
theorem ex_zeros (w : World) : Calls Try.prog 23 #[.string ⟨#[15]⟩] w fun e w' => e = .returned (.int .i64 4) ∧ w = w' := by
  have h := zeros_any ⟨#[15]⟩ w (by decide)
  rwa [show (zsTo ⟨#[15]⟩ (ByteArray.size ⟨#[15]⟩) : Int) = 4 by decide] at h

set_option maxRecDepth 100000 in
theorem works_any (w : World) : Calls Try.prog 14 #[] w fun e w' => e = .returned (.bool true) ∧ Below w.heap.size w w' := by
  go_enter Try.func14, Try.ntmps14
  go_wp2_with fail
  refine (ex_put2 _).mono ?_
  rintro e w1 ⟨rfl, hb⟩
  have HB := Lib.hid hb
  clear hb
  go_wp2_with fail
  refine (ex_put1 _).mono ?_
  rintro e w' ⟨rfl, rfl⟩
  go_wp2_with fail
  refine (ex_sign _).mono ?_
  rintro e w' ⟨rfl, rfl⟩
  go_wp2_with fail
  refine (ex_narrow _).mono ?_
  rintro e w' ⟨rfl, rfl⟩
  go_wp2_with fail
  refine (ex_turn _).mono ?_
  rintro e w' ⟨rfl, rfl⟩
  go_wp2_with fail
  refine (ex_zeros _).mono ?_
  rintro e w' ⟨rfl, rfl⟩
  go_wp2_with fail
  go_ret
  exact ⟨rfl, HB.out⟩

end Go.Proofs.Ytcngmhodgpmjfaa
