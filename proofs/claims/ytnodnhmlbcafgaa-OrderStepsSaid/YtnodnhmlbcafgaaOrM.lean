/- Layer 7: what the document asks of the steps of a block, in lists and numbers; all that follows is tried at each number of lines. -/
import Derived.Test.YtnodnhmlbcafgaaKit
namespace Go.Proofs.Ytnodnhmlbcafgaa
set_option maxRecDepth 100000
open Go.RowKit

/-- the steps behind k lines, but the last fine one -/
def refTo : Nat → List (Nat × Bool)
  | 0 => []
  | 1 => [(0, false)]
  | k + 2 => refTo (k + 1) ++ [(k + 1, false), (k, true)]
def refL (n : Nat) : List (Nat × Bool) := refTo n ++ [(n - 1, true)]
theorem refTo_length : ∀ k, 1 ≤ k → (refTo k).length = 2 * k - 1
  | 1, _ => rfl
  | k + 2, _ => by
    show (refTo (k + 1) ++ _).length = _
    rw [List.length_append, refTo_length (k + 1) (by omega)]
    simp only [List.length_cons, List.length_nil]; omega
theorem refL_length (n : Nat) (h : 1 ≤ n) : (refL n).length = 2 * n := by
  unfold refL
  rw [List.length_append, refTo_length n h]
  simp only [List.length_cons, List.length_nil]; omega
/-- the k-th step; which step one is; what a line is -/
def stepC (n k : Nat) : Nat × Bool := if k = 0 then (0, false) else if k + 1 = 2 * n then (n - 1, true) else if k % 2 = 1 then ((k + 1) / 2, false) else (k / 2 - 1, true)
def placeC (n l : Nat) (f : Bool) : Nat := if f = true then (if l + 1 = n then 2 * n - 1 else 2 * l + 2) else (if l = 0 then 0 else 2 * l - 1)
def afterC (n k l : Nat) : Nat := if placeC n l true < k then 2 else if placeC n l false < k then 1 else 0
theorem refL_map : ∀ n, n ≤ 64 → 1 ≤ n → refL n = (List.range (2 * n)).map (stepC n) := by decide +kernel
theorem refL_at {n k : Nat} (h1 : 1 ≤ n) (h64 : n ≤ 64) (hk : k < 2 * n) : (refL n).getD k (0, false) = stepC n k := by
  rw [refL_map n h64 h1]
  simp [List.getD, hk]
/-- steps and places go there and back -/
theorem step_place {n l : Nat} (f : Bool) (h : l < n) : stepC n (placeC n l f) = (l, f) ∧ placeC n l f < 2 * n := by
  cases f
  · have hp : placeC n l false = if l = 0 then 0 else 2 * l - 1 := rfl
    rw [hp]
    split
    · rename_i h0
      exact ⟨by rw [h0]; rfl, by omega⟩
    · unfold stepC
      rw [if_neg (by omega), if_neg (by omega), if_pos (by omega)]
      exact ⟨by congr 1; omega, by omega⟩
  · have hp : placeC n l true = if l + 1 = n then 2 * n - 1 else 2 * l + 2 := rfl
    rw [hp]
    unfold stepC
    split
    · rw [if_neg (by omega), if_pos (by omega)]
      exact ⟨by congr 1; omega, by omega⟩
    · rw [if_neg (by omega), if_neg (by omega), if_neg (by omega)]
      exact ⟨by congr 1; omega, by omega⟩
theorem place_step {n k : Nat} (h : k < 2 * n) : placeC n (stepC n k).1 (stepC n k).2 = k ∧ (stepC n k).1 < n := by
  unfold stepC
  split
  · rename_i h0
    exact ⟨by rw [h0]; rfl, by show 0 < n; omega⟩
  · split
    · refine ⟨?_, by show n - 1 < n; omega⟩
      show (if (n - 1) + 1 = n then 2 * n - 1 else 2 * (n - 1) + 2) = k
      rw [if_pos (by omega)]; omega
    · split
      · refine ⟨?_, by show (k + 1) / 2 < n; omega⟩
        show (if (k + 1) / 2 = 0 then 0 else 2 * ((k + 1) / 2) - 1) = k
        rw [if_neg (by omega)]; omega
      · refine ⟨?_, by show k / 2 - 1 < n; omega⟩
        show (if (k / 2 - 1) + 1 = n then 2 * n - 1 else 2 * (k / 2 - 1) + 2) = k
        rw [if_neg (by omega)]; omega
theorem foggy_first (n l : Nat) : placeC n l false < placeC n l true := by
  show (if l = 0 then 0 else 2 * l - 1) < (if l + 1 = n then 2 * n - 1 else 2 * l + 2)
  split <;> split <;> omega
/-- with each step just the line that it is of becomes more, by one -/
theorem after_succ {n k l : Nat} (hk : k < 2 * n) (hl : l < n) : afterC n (k + 1) l = afterC n k l + (if (stepC n k).1 = l then 1 else 0) := by
  have hp := place_step hk
  have hf := foggy_first n l
  have hsf := step_place false hl
  have hst := step_place true hl
  by_cases he : (stepC n k).1 = l
  · rw [if_pos he]
    rw [he] at hp
    unfold afterC
    cases hb : (stepC n k).2 with
    | false =>
      rw [hb] at hp
      rw [if_neg (by omega), if_pos (by omega), if_neg (by omega), if_neg (by omega)]
    | true =>
      rw [hb] at hp
      rw [if_pos (by omega), if_neg (by omega), if_pos (by omega)]
  · rw [if_neg he]
    have h1 : placeC n l false ≠ k := fun h => he (by rw [← h, hsf.1])
    have h2 : placeC n l true ≠ k := fun h => he (by rw [← h, hst.1])
    unfold afterC
    by_cases h3 : placeC n l true < k
    · rw [if_pos (by omega), if_pos h3]
    · rw [if_neg (by omega), if_neg h3]
      by_cases h4 : placeC n l false < k
      · rw [if_pos (by omega), if_pos h4]
      · rw [if_neg (by omega), if_neg h4]
theorem after_none (n l : Nat) : afterC n 0 l = 0 := by
  unfold afterC
  rw [if_neg (by omega), if_neg (by omega)]
theorem after_all {n l : Nat} (h : l < n) : afterC n (2 * n) l = 2 := by
  unfold afterC
  rw [if_pos (step_place true h).2]
/-- the line that a step is of is fine behind it just if the step is -/
theorem after_at {n k : Nat} (hk : k < 2 * n) : ((afterC n (k + 1) (stepC n k).1 : Nat) == 2) = (stepC n k).2 := by
  have hp := place_step hk
  have hf := foggy_first n (stepC n k).1
  unfold afterC
  cases hb : (stepC n k).2 with
  | false =>
    rw [hb] at hp
    rw [if_neg (by omega), if_pos (by omega)]
    rfl
  | true =>
    rw [hb] at hp
    rw [if_pos (by omega)]
    rfl
theorem after_le (n k l : Nat) : afterC n k l ≤ 2 := by unfold afterC; split <;> (try split) <;> omega
/-- a line behind another is no further than it, and is begun where the other is fine -/
theorem after_next {n k l : Nat} (h : l + 1 < n) : afterC n k (l + 1) ≤ afterC n k l ∧ (afterC n k l = 2 → 1 ≤ afterC n k (l + 1)) := by
  have a1 : placeC n (l + 1) false = 2 * l + 1 := by show (if l + 1 = 0 then 0 else 2 * (l + 1) - 1) = _; rw [if_neg (by omega)]; omega
  have a2 : placeC n l true = 2 * l + 2 := by show (if l + 1 = n then 2 * n - 1 else 2 * l + 2) = _; rw [if_neg (by omega)]
  have a3 : placeC n l false ≤ 2 * l := by show (if l = 0 then 0 else 2 * l - 1) ≤ _; split <;> omega
  have a4 : 2 * l + 2 ≤ placeC n (l + 1) true := by show _ ≤ (if l + 1 + 1 = n then 2 * n - 1 else 2 * (l + 1) + 2); split <;> omega
  unfold afterC
  rw [a1, a2]
  constructor
  · split <;> split <;> (try split) <;> (try split) <;> omega
  · intro h2
    split
    · omega
    · split
      · omega
      · exfalso
        split at h2 <;> (try split at h2) <;> omega

/-- so many lines may be -/
def LinesOk (n : Int) : Prop := 1 ≤ n ∧ n ≤ 64
instance (n : Int) : Decidable (LinesOk n) := by unfold LinesOk; infer_instance

/-- the cells of some steps -/
def cellsS (l : List (Nat × Bool)) : List Value := l.flatMap fun s => [.int .i64 (s.1 : Nat), .bool s.2]
theorem cellsS_append (a b : List (Nat × Bool)) : cellsS (a ++ b) = cellsS a ++ cellsS b := by simp [cellsS]
theorem cellsS_length : ∀ l, (cellsS l).length = 2 * l.length
  | [] => rfl
  | x :: l => by
    have := cellsS_length l
    simp only [cellsS, List.flatMap_cons, List.length_append, List.length_cons, List.length_nil] at this ⊢
    omega
theorem cellsS_line : ∀ (l : List (Nat × Bool)) (j : Nat), j < l.length → (cellsS l)[2 * j]? = some (.int .i64 ((l.getD j (0, false)).1 : Nat))
  | [], j, h => absurd h (Nat.not_lt_zero j)
  | x :: l, 0, _ => rfl
  | x :: l, j + 1, h => by
    have := cellsS_line l j (by simpa using h)
    simpa [cellsS, List.flatMap_cons, show 2 * (j + 1) = 2 * j + 1 + 1 by omega] using this
theorem cellsS_fine : ∀ (l : List (Nat × Bool)) (j : Nat), j < l.length → (cellsS l)[2 * j + 1]? = some (.bool (l.getD j (0, false)).2)
  | [], j, h => absurd h (Nat.not_lt_zero j)
  | x :: l, 0, _ => rfl
  | x :: l, j + 1, h => by
    have := cellsS_fine l j (by simpa using h)
    simpa [cellsS, List.flatMap_cons, show 2 * (j + 1) + 1 = 2 * j + 1 + 1 + 1 by omega] using this

/-- so many of the first l lines may be foggy and not fine behind k steps -/
def fogB (k l : Nat) : Nat := (if k / 2 ≤ l then 1 else 0) + (if k / 2 < l then 1 else 0)
theorem fogB_le (k l : Nat) : fogB k l ≤ 2 := by unfold fogB; split <;> split <;> omega
theorem fogB_up (k l : Nat) : fogB k l ≤ fogB k (l + 1) := by unfold fogB; split <;> split <;> split <;> (try split) <;> omega
theorem fogB_next {n k l : Nat} (hl : l < n) (h : afterC n k l = 1) : fogB k l + 1 ≤ fogB k (l + 1) := by
  have a3 : placeC n l false = if l = 0 then 0 else 2 * l - 1 := rfl
  have a2 : placeC n l true = if l + 1 = n then 2 * n - 1 else 2 * l + 2 := rfl
  have h1 : placeC n l false < k ∧ k ≤ placeC n l true := by
    unfold afterC at h
    split at h
    · omega
    · split at h
      · omega
      · omega
  have h2 : l = k / 2 ∨ l + 1 = k / 2 := by
    rw [a3, a2] at h1
    obtain ⟨h1, h2⟩ := h1
    split at h1 <;> split at h2 <;> omega
  unfold fogB
  rcases h2 with h2 | h2
  · rw [if_pos (by omega), if_neg (by omega), if_pos (by omega), if_pos (by omega)]; exact Nat.le_refl _
  · rw [if_neg (by omega), if_neg (by omega), if_pos (by omega), if_neg (by omega)]; exact Nat.le_refl _

/-- a step's cells -/
def sv (l : Int) (f : Bool) : Array Value := #[.int .i64 l, .bool f]
/-- is there such a step, such a line; what is asked of At, Place and After -/
def IsStep (n k : Int) : Prop := LinesOk n ∧ 0 ≤ k ∧ k < 2 * n
def IsLine (n l : Int) : Prop := LinesOk n ∧ 0 ≤ l ∧ l < n
def IsAfter (n k l : Int) : Prop := LinesOk n ∧ 0 ≤ k ∧ k ≤ 2 * n ∧ 0 ≤ l ∧ l < n
instance (n k : Int) : Decidable (IsStep n k) := by unfold IsStep; infer_instance
instance (n l : Int) : Decidable (IsLine n l) := by unfold IsLine; infer_instance
instance (n k l : Int) : Decidable (IsAfter n k l) := by unfold IsAfter; infer_instance
def stL (n k : Int) : Int := if IsStep n k then ((stepC n.toNat k.toNat).1 : Nat) else 0
def stF (n k : Int) : Bool := if IsStep n k then (stepC n.toNat k.toNat).2 else false
def stC (n k : Int) : Int := if IsStep n k then 0 else 1
def plN (n l : Int) (f : Bool) : Int := if IsLine n l then (placeC n.toNat l.toNat f : Nat) else 0
def plC (n l : Int) : Int := if IsLine n l then 0 else 1
def afN (n k l : Int) : Int := if IsAfter n k l then (afterC n.toNat k.toNat l.toNat : Nat) else 0
def afC (n k l : Int) : Int := if IsAfter n k l then 0 else 1
def StepT (n k : Int) (w : World) (e : Ending) (w' : World) : Prop := e = .returned (.tuple #[.agg (sv (stL n k) (stF n k)), .int .i64 (stC n k)]) ∧ Below w.heap.size w w'
def PlaceT (n l : Int) (f : Bool) (w : World) (e : Ending) (w' : World) : Prop := e = .returned (.tuple #[.int .i64 (plN n l f), .int .i64 (plC n l)]) ∧ Below w.heap.size w w'
def AfterT (n k l : Int) (w : World) (e : Ending) (w' : World) : Prop := e = .returned (.tuple #[.int .i64 (afN n k l), .int .i64 (afC n k l)]) ∧ Below w.heap.size w w'

end Go.Proofs.Ytnodnhmlbcafgaa
