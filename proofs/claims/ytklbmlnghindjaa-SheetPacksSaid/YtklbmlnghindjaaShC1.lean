/- Package sheet, walked: Hold, and whether a text has noughts alone. -/
import Derived.Test.YtklbmlnghindjaaShM
import Derived.Test.YtklbmlnghindjaaRcC
namespace Go.Proofs.Ytklbmlnghindjaa
set_option maxRecDepth 100000
open Go.RowKit

theorem sh_hold (n : Int) (w : World) : Calls Try.prog 8 #[.int .i64 n] w fun e w' => e = .returned (.int .i64 (holdN n)) ∧ w = w' := by
  by_cases h : 16 ≤ n ∧ n ≤ 256
  · have hh : (n - 1) / 9 = (holdN n : Int) := by rw [holdN_in h]; omega
    obtain ⟨m, hm⟩ : ∃ m, holdN n = m := ⟨_, rfl⟩
    rw [hm] at hh ⊢
    have HH := Lib.hid hh
    have b1 : ¬ n < 16 := by omega
    have b2 : ¬ (256 : Int) < n := by omega
    have b3 : decide (n < 16) = false := decide_eq_false b1
    have b4 : decide ((256 : Int) < n) = false := decide_eq_false b2
    have hn : 16 ≤ n ∧ n ≤ 256 := h
    clear hm h hh
    go_enter Try.func8, Try.ntmps8
    go_wp2_with fail
    go_ret
    refine ⟨ret_int ?_, rfl⟩
    have := HH.out
    first | exact this | (simp; omega) | omega
  · rw [holdN_out h]
    have hc : n < 16 ∨ (¬ n < 16 ∧ (256 : Int) < n) := by omega
    clear h
    rcases hc with hc | ⟨hc, hc2⟩
    · go_enter Try.func8, Try.ntmps8
      go_wp2_with fail
      go_ret
      exact ⟨rfl, rfl⟩
    · have hc3 : decide (n < 16) = false := decide_eq_false hc
      go_enter Try.func8, Try.ntmps8
      go_wp2_with fail
      go_ret
      exact ⟨rfl, rfl⟩

/-- a text of noughts alone -/
def Noughts (s : ByteArray) : Prop := ∀ i : Nat, i < s.size → byteT s i = 0
theorem noughts_empty {s : ByteArray} (h : s.size = 0) : Noughts s := fun i hi => absurd hi (by omega)
theorem byteT_ext (s : ByteArray) (a b i : Nat) (hb : b ≤ s.size) (h : a + i < b) : byteT (s.extract a b) i = byteT s (a + i) := by
  have h1 : i < (s.extract a b).size := by rw [ByteArray.size_extract]; omega
  rw [← byteT_get9 _ i h1, ← byteT_get9 s (a + i) (by omega), ByteArray.getElem_extract]
theorem noughts_tail {t : ByteArray} (h : 0 < t.size) (h0 : byteT t 0 = 0) : Noughts (t.extract 1 t.size) ↔ Noughts t := by
  constructor
  · intro hn i hi
    rcases Nat.eq_zero_or_pos i with rfl | h1
    · exact h0
    · have h2 := hn (i - 1) (by rw [ByteArray.size_extract]; omega)
      rw [byteT_ext t 1 t.size (i - 1) (Nat.le_refl _) (by omega)] at h2
      rwa [show 1 + (i - 1) = i by omega] at h2
  · intro hn i hi
    rw [ByteArray.size_extract] at hi
    rw [byteT_ext t 1 t.size i (Nat.le_refl _) (by omega)]
    exact hn _ (by omega)
instance (s : ByteArray) : Decidable (Noughts s) := Nat.decidableBallLT s.size fun i _ => byteT s i = 0

/-- what is left of s, its leading noughts struck -/
def TrimOk (t s : ByteArray) : Prop := t.size = 0 ↔ Noughts s
/-- a text's size, of a value -/
def szB : Value → Nat
  | .string s => s.size
  | _ => 0
theorem text_fullS {q : ByteArray} (h : ¬ q = ByteArray.empty) : q.toList.isEmpty = false := by
  rw [ByteArray.toList_eq]
  cases hq : q.data.toList with
  | nil =>
    exfalso
    apply h
    obtain ⟨d⟩ := q
    simp at hq
    subst hq
    rfl
  | cons => rfl

end Go.Proofs.Ytklbmlnghindjaa
