/- The reference of layer 4, walked: Decode of a text that is no tag's bytes by its form. -/
import Derived.Test.YtgpegacbgjdogaaTagR2
namespace Go.Proofs.Ytgpegacbgjdogaa
open Go.RowKit

def tagV (k l q e : Int) : Value := .agg #[.int .i64 k, .int .i64 l, .int .i64 q, .int .i64 e]
theorem byteT_get (s : ByteArray) (i : Nat) (h : i < s.size) : ((s[i].toNat : Nat) : Int) = byteT s i := by
  unfold byteT
  have : s.data.toList.getD i 0 = s[i] := by simp [List.getD, h]; rfl
  rw [this]

set_option maxHeartbeats 1000000 in
set_option maxRecDepth 100000 in
theorem rtag_dec_size (s : ByteArray) (w : World) (h : s.size ≠ 16) (hm : s.size ≤ maxLen) :
    Calls Try.prog 10 #[.string s] w fun r w' => r = .returned (.tuple #[tagV 0 0 0 0, .int .i64 3]) ∧ Below w.heap.size w w' := by
  have hm2 : (s.size : Int) ≤ 9223372036854775807 := by unfold maxLen at hm; omega
  have h2 : ((s.size : Int) == 16) = false := by simp; omega
  clear hm
  go_enter Try.func10, Try.ntmps10
  go_wp2_with fail
  simp [bodyPost, results, Try.results10, go_sem, tagV]
  exact (Below.refl _ _).alloc (Nat.le_refl _) _

set_option maxHeartbeats 1000000 in
set_option maxRecDepth 100000 in
theorem rtag_dec_form (s : ByteArray) (w : World) (h : s.size = 16) (hf : ¬ FormT s) :
    Calls Try.prog 10 #[.string s] w fun r w' => r = .returned (.tuple #[tagV 0 0 0 0, .int .i64 3]) ∧ Below w.heap.size w w' := by
  have hs : (s.size : Int) = 16 := by omega
  have g0 := byteT_get s 0 (by omega); have g14 := byteT_get s 14 (by omega); have g15 := byteT_get s 15 (by omega)
  obtain ⟨b0, hb0⟩ : ∃ b : Nat, s[0].toNat = b := ⟨_, rfl⟩
  obtain ⟨b14, hb14⟩ : ∃ b : Nat, s[14].toNat = b := ⟨_, rfl⟩
  obtain ⟨b15, hb15⟩ : ∃ b : Nat, s[15].toNat = b := ⟨_, rfl⟩
  rw [hb0] at g0; rw [hb14] at g14; rw [hb15] at g15
  have hne : ¬ (b0 = 27 ∧ b14 = 0 ∧ b15 = 0) := fun ⟨x, y, z⟩ => hf ⟨h, by rw [← g0, x]; rfl, by rw [← g14, y]; rfl, by rw [← g15, z]; rfl⟩
  clear hf g0 g14 g15
  go_enter Try.func10, Try.ntmps10
  go_wp2_with fail
  all_goals first
    | (exfalso; apply hne; constructor <;> omega)
    | (simp [bodyPost, results, Try.results10, go_sem, tagV]; exact (Below.refl _ _).alloc (Nat.le_refl _) _)

end Go.Proofs.Ytgpegacbgjdogaa
