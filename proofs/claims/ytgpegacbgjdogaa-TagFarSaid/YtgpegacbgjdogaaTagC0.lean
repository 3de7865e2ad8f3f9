/- Package tag, walked: May, get, put; what put leaves in the block that it fills. -/
import Derived.Test.YtgpegacbgjdogaaTagR5
import Derived.Test.YtgpegacbgjdogaaBitsP
import Derived.Test.YtgpegacbgjdogaaBs
import Derived.Lib.BufferWrite
import Derived.StillTailTactics
namespace Go.Proofs.Ytgpegacbgjdogaa
open Go.RowKit

/-- bytes as cells -/
def tca (l : List UInt8) : Array Value := (Lib.byteCells l).toArray
theorem tca_size (l : List UInt8) : (tca l).size = l.length := by simp [tca, Lib.byteCells]
/-- bytes laid over others, from a place on -/
def layL (l : List UInt8) (o : Nat) (m : List UInt8) : List UInt8 := l.take o ++ m ++ l.drop (o + m.length)
theorem tca_lay (l : List UInt8) (o : Nat) (m : List UInt8) : ((tca l).toList.take o ++ Lib.byteCells m ++ (tca l).toList.drop (o + m.length)).toArray = tca (layL l o m) := by
  simp [tca, layL, Lib.byteCells, List.map_append, List.map_take, List.map_drop]
theorem layL_length (l : List UInt8) (o : Nat) (m : List UInt8) (h : o + m.length ≤ l.length) : (layL l o m).length = l.length := by
  simp [layL]; omega

/-- copy of a text over a piece of a block of bytes -/
theorem copy_lay (g o n cap : Nat) (l : List UInt8) (t : TypeId) (w : World) (s : ByteArray) (ty : TypeId) (h : Blk w g (tca l) t) (hs : s.size ≤ n) (hf : o + s.size ≤ l.length) :
    Sem.run Try.prog (Builtin.copy_ #[35, 9] ty #[.slice (some ⟨g, o, none⟩) n cap, .string s]) w = .ok (goInt s.size) (w.setRow g (tca (layL l o (bs s)))) := by
  obtain ⟨i0, hi, hz0, hz1, hz2⟩ := info_parts Try.infoU8
  have e := Lib.run_copy_row_string (P := Try.prog) w 35 9 ty 5 g o n cap s (tca l) t Try.underlying35 (by rw [hi]; simp [hz1]) h hs (by rw [tca_size]; exact hf)
  have hl := tca_lay l o (bs s)
  rw [bs_length] at hl
  rw [e]
  unfold bs at hl ⊢
  rw [hl]

theorem tag_kind (k : Int) (w : World) : Calls Try.prog 18 #[.int .i64 k] w fun r w' => r = .returned (.bool (decide (1 ≤ k ∧ k ≤ 4))) ∧ w = w' := by
  go_enter Try.func18, Try.ntmps18
  go_wp2
  all_goals go_ret
  all_goals exact ⟨ret_bool (by rw [Bool.eq_iff_iff]; simp only [beq_iff_eq, beq_eq_false_iff_ne, ne_eq, decide_eq_true_eq, true_iff, false_iff, Bool.false_eq_true] at *; omega), rfl⟩
theorem tag_upto (v m : Int) (w : World) : Calls Try.prog 19 #[.int .i64 v, .int .i64 m] w fun r w' => r = .returned (.bool (decide (0 ≤ v ∧ v ≤ m))) ∧ w = w' := by
  go_enter Try.func19, Try.ntmps19
  go_wp2
  all_goals go_ret
  all_goals exact ⟨ret_bool (by rw [Bool.eq_iff_iff]; simp; try omega), rfl⟩

theorem tag_get (s : ByteArray) (w : World) (h1 : 1 ≤ s.size) (h2 : s.size ≤ 6) :
    Calls Try.prog 16 #[.string s] w fun r w' => r = .returned (.int .i64 (numS s)) ∧ w = w' := by
  have hn : 0 ≤ numS s ∧ numS s < 9223372036854775807 := by
    have h := numTo_bd s s.size (Nat.le_refl _)
    have h3 : p2 (8 * s.size) ≤ p2 48 := p2_le (by omega)
    have h4 : p2 48 = 281474976710656 := by decide
    unfold numS; omega
  obtain ⟨x, hx⟩ : ∃ x, numS s = x := ⟨_, rfl⟩
  have HX := Lib.hid hx
  rw [hx] at hn ⊢
  clear hx
  go_enter Try.func16, Try.ntmps16
  go_wp2_with fail
  refine (get_yes s _ h1 (by omega)).mono ?_
  rintro r w1 ⟨rfl, rfl⟩
  rw [HX.out]
  go_wp2_with fail
  go_ret
  exact ⟨rfl, rfl⟩

/-- what put leaves: the block filled anew, nothing else -/
def PutT (g : Nat) (cs : Array Value) (w : World) (r : Ending) (w' : World) : Prop := r = .returned (.tuple #[]) ∧ ∃ w1, Below w.heap.size w w1 ∧ w' = w1.setRow g cs
theorem tag_put (g o n cap : Nat) (v : Int) (l : List UInt8) (t : TypeId) (w : World) (h : Blk w g (tca l) t) (h1 : 1 ≤ n) (h2 : n ≤ 8) (v0 : 0 ≤ v) (v1 : v ≤ 9223372036854775807) (v2 : v < p2 (8 * n)) (hf : o + n ≤ l.length) :
    Calls Try.prog 14 #[.slice (some ⟨g, o, none⟩) n cap, .int .i64 v] w (PutT g (tca (layL l o (bs (leS v n)))) w) := by
  have hw : IntKind.u64.wrap v = v := by rw [IntKind.wrap_u64]; omega
  have HV := Lib.hid v2
  have HB := Lib.hid h
  clear v2 h
  go_enter Try.func14, Try.ntmps14
  go_wp2_with fail
  refine (put_fit v n _ h1 h2 v0 HV.out).mono ?_
  rintro r w1 ⟨rfl, hb1⟩
  have hz := leS_size v n
  have hcp := fun ty => copy_lay g o n cap l t w1 (leS v n) ty (HB.out.after hb1) (by omega) (by omega)
  have HB1 := Lib.hid hb1
  clear hb1 HB
  obtain ⟨S, hS⟩ : ∃ S, leS v n = S := ⟨_, rfl⟩
  rw [hS] at hcp hz ⊢
  have HS := Lib.hid hS
  clear hS
  go_wp2_with fail
  go_end0
  exact ⟨rfl, _, HB1.out, by rw [HS.out]⟩

theorem may_split (k l q e : Int) : mayB k l q e = (decide (1 ≤ k ∧ k ≤ 4) && decide (0 ≤ l ∧ l ≤ 4096) && decide (0 ≤ q ∧ q ≤ 281474976710655) && decide (0 ≤ e ∧ e ≤ 4294967295)) := by
  rw [Bool.eq_iff_iff, mayB_iff]
  unfold MayT
  simp [and_assoc]

set_option maxRecDepth 100000 in
theorem tag_may (k l q e : Int) (w : World) : Calls Try.prog 11 #[.agg (ta k l q e)] w (MayPost k l q e w) := by
  unfold MayPost
  rw [may_split]
  obtain ⟨b1, e1⟩ : ∃ b, decide (1 ≤ k ∧ k ≤ 4) = b := ⟨_, rfl⟩
  obtain ⟨b2, e2⟩ : ∃ b, decide (0 ≤ l ∧ l ≤ 4096) = b := ⟨_, rfl⟩
  obtain ⟨b3, e3⟩ : ∃ b, decide (0 ≤ q ∧ q ≤ 281474976710655) = b := ⟨_, rfl⟩
  obtain ⟨b4, e4⟩ : ∃ b, decide (0 ≤ e ∧ e ≤ 4294967295) = b := ⟨_, rfl⟩
  rw [e1, e2, e3, e4]
  have H1 := Lib.hid e1; have H2 := Lib.hid e2; have H3 := Lib.hid e3; have H4 := Lib.hid e4
  clear e1 e2 e3 e4
  unfold ta
  go_enter Try.func11, Try.ntmps11
  go_wp2_with fail
  refine (tag_kind k _).mono ?_
  rintro r w1 ⟨rfl, rfl⟩
  rw [H1.out]
  cases b1
  · go_wp2_with fail
    go_ret
    exact ⟨rfl, (Below.refl _ _).alloc (Nat.le_refl _) _⟩
  go_wp2_with fail
  refine (tag_upto l 4096 _).mono ?_
  rintro r w1 ⟨rfl, rfl⟩
  rw [H2.out]
  cases b2
  · go_wp2_with fail
    go_ret
    exact ⟨rfl, (Below.refl _ _).alloc (Nat.le_refl _) _⟩
  go_wp2_with fail
  refine (tag_upto q 281474976710655 _).mono ?_
  rintro r w1 ⟨rfl, rfl⟩
  rw [H3.out]
  cases b3
  · go_wp2_with fail
    go_ret
    exact ⟨rfl, (Below.refl _ _).alloc (Nat.le_refl _) _⟩
  go_wp2_with fail
  refine (tag_upto e 4294967295 _).mono ?_
  rintro r w1 ⟨rfl, rfl⟩
  rw [H4.out]
  go_wp2_with fail
  go_ret
  exact ⟨by cases b4 <;> rfl, (Below.refl _ _).alloc (Nat.le_refl _) _⟩

end Go.Proofs.Ytgpegacbgjdogaa
