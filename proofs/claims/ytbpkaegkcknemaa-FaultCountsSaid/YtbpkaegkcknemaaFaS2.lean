/- slices.symMergeCmpFunc at faults, walked: two sorted rows next to one another become one, those of one number in their order. Written by wip/tools/mkfas2.py. -/
import Derived.Test.YtbpkaegkcknemaaFaQ
namespace Go.Proofs.Ytbpkaegkcknemaa
set_option maxRecDepth 100000
open Go.Shelf Go.RowKit Go.Lib Go.Sort Go.Proofs

theorem cross_same {A X1 X2 Y1 Y2 B : List Fa} (h : X2.length = 0 ∨ Y1.length = 0) : A ++ (X1 ++ X2) ++ (Y1 ++ Y2) ++ B = A ++ X1 ++ Y1 ++ X2 ++ Y2 ++ B := by
  rcases h with h | h
  · rw [List.length_eq_zero_iff.1 h]; simp
  · rw [List.length_eq_zero_iff.1 h]; simp
theorem half_same {X Y : List Fa} (h : X.length = 0 ∨ Y.length = 0) (hX : Srt X) (hY : Srt Y) : Srt (X ++ Y) := by
  rcases h with h | h
  · rw [List.length_eq_zero_iff.1 h]; simpa using hY
  · rw [List.length_eq_zero_iff.1 h]; simpa using hX
theorem half_len {A X1 Y1 X2 Y2 B Z : List Fa} {d d2 : Array Fa} (h : d.toList = A ++ X1 ++ Y1 ++ X2 ++ Y2 ++ B) (h2 : d2.toList = A ++ Z ++ (X2 ++ Y2 ++ B)) (hz : d2.size = d.size) : Z.length = X1.length + Y1.length := by
  have e1 := arr_size h
  have e2 := arr_size h2
  simp at e1 e2
  omega
theorem sym_end {A X1 X2 Y1 Y2 B Z1 Z2 : List Fa} {d3 : Array Fa} (hX : Srt (X1 ++ X2)) (hY : Srt (Y1 ++ Y2)) (h21 : ∀ y ∈ Y1, ∀ x ∈ X2, y.1 < x.1) (h12 : ∀ x ∈ X1, ∀ y ∈ Y2, x.1 ≤ y.1)
    (h1 : Srt Z1 ∧ St (X1 ++ Y1) Z1) (h2 : Srt Z2 ∧ St (X2 ++ Y2) Z2) (h3 : d3.toList = A ++ Z1 ++ Z2 ++ B) : SyE A (X1 ++ X2) (Y1 ++ Y2) B d3 :=
  have h := merge_parts hX hY h21 h12 h1.1 h1.2 h2.1 h2.2
  ⟨Z1 ++ Z2, by rw [h3]; simp, h.1, h.2⟩

/-- what is said of it, rows of at most N faults together -/
def SymC (P : Program) (k g : Nat) (cb : Array Value) (blk off cap : Nat) (d0 : Array Fa) (w0 : World) (N : Nat) : Prop :=
  ∀ (a m b : Nat) (d : Array Fa) (A X Y B : List Fa) (w : World), b - a ≤ N → d0.size = d.size → SWK encF k w0 blk off d w → a < m → m < b → d.size < 1152921504606846976 → SyL a m b d A X Y B →
    Calls P 39 #[.slice (some ⟨blk, off, none⟩) d.size cap, .int .i64 a, .int .i64 m, .int .i64 b, .func (.func g) #[] cb] w fun e w' => e = .returned (.tuple #[]) ∧ ∃ d' : Array Fa, d'.size = d.size ∧ SyE A X Y B d' ∧ SWK encF k w0 blk off d' w'

end Go.Proofs.Ytbpkaegkcknemaa
