/- Lists of faults, sorted by their first number so that those of one number keep their order: what it is, that there is one, what an exchange of neighbours does. No program in this text. -/
import Derived.Test.YtbpkaegkcknemaaKit
import Derived.Sort.LotA
import Derived.Shelf.SlSortCmp.Insertion
import Derived.Lib.Small
namespace Go.Proofs.Ytbpkaegkcknemaa
open Go.Sort

/-- a fault: At, Kind, A, B -/
abbrev Fa := Int × Int × Int × Int

def Srt (l : List Fa) : Prop := l.Pairwise fun x y => x.1 ≤ y.1
/-- those of each number are the same, in the same order -/
def St (l l' : List Fa) : Prop := ∀ v : Int, l.filter (fun x => x.1 == v) = l'.filter (fun x => x.1 == v)

theorem St.refl (l : List Fa) : St l l := fun _ => rfl
theorem St.symm {l l' : List Fa} (h : St l l') : St l' l := fun v => (h v).symm
theorem St.trans {a b c : List Fa} (h : St a b) (k : St b c) : St a c := fun v => (h v).trans (k v)
theorem St.app {a a' b b' : List Fa} (h : St a a') (k : St b b') : St (a ++ b) (a' ++ b') := fun v => by rw [List.filter_append, List.filter_append, h v, k v]
theorem St.mem {a b : List Fa} (h : St a b) {x : Fa} (hx : x ∈ a) : x ∈ b := by
  have h1 : x ∈ a.filter (fun y => y.1 == x.1) := List.mem_filter.2 ⟨hx, by simp⟩
  rw [h x.1] at h1
  exact (List.mem_filter.1 h1).1
theorem filter_none {l : List Fa} {v : Int} (h : ∀ x ∈ l, x.1 ≠ v) : l.filter (fun x => x.1 == v) = [] := by
  rw [List.filter_eq_nil_iff]
  intro x hx
  simpa using h x hx
theorem St.swap {X Y : List Fa} (h : ∀ x ∈ X, ∀ y ∈ Y, x.1 ≠ y.1) : St (X ++ Y) (Y ++ X) := by
  intro v
  rw [List.filter_append, List.filter_append]
  by_cases hx : ∃ x ∈ X, x.1 = v
  · obtain ⟨x, hx, rfl⟩ := hx
    rw [filter_none (l := Y) (fun y hy => (h x hx y hy).symm)]
    simp
  · rw [filter_none (l := X) (fun x hx' e => hx ⟨x, hx', e⟩)]
    simp
theorem St.cancel {A X X' B : List Fa} (h : St (A ++ X ++ B) (A ++ X' ++ B)) : St X X' := by
  intro v
  have := h v
  simp only [List.filter_append] at this
  exact List.append_cancel_left (List.append_cancel_right this)
/-- there is one only -/
theorem St.uniq : ∀ {l l' : List Fa}, Srt l → Srt l' → St l l' → l = l'
  | [], l', _, _, h => by
    cases l' with
    | nil => rfl
    | cons y t => exact absurd (h.symm.mem (List.mem_cons_self (a := y) (l := t))) (by simp)
  | x :: t, [], _, _, h => absurd (h.mem (List.mem_cons_self (a := x) (l := t))) (by simp)
  | x :: t, y :: t', hs, hs', h => by
    have hs1 := List.pairwise_cons.1 hs
    have hs2 := List.pairwise_cons.1 hs'
    have a1 : y.1 ≤ x.1 := by
      rcases List.mem_cons.1 (h.mem (List.mem_cons_self (a := x) (l := t))) with e | e
      · rw [e]; exact Int.le_refl _
      · exact hs2.1 x e
    have a2 : x.1 ≤ y.1 := by
      rcases List.mem_cons.1 (h.symm.mem (List.mem_cons_self (a := y) (l := t'))) with e | e
      · rw [e]; exact Int.le_refl _
      · exact hs1.1 y e
    have e1 : x.1 = y.1 := Int.le_antisymm a2 a1
    have hx := h x.1
    rw [List.filter_cons_of_pos (by simp), List.filter_cons_of_pos (by simp [e1])] at hx
    have hxy : x = y := (List.cons.inj hx).1
    have ht : St t t' := by
      intro v
      by_cases ev : x.1 = v
      · rw [← ev]; exact (List.cons.inj hx).2
      · have := h v
        rw [List.filter_cons_of_neg (by simpa using ev), List.filter_cons_of_neg (by simpa [← e1] using ev)] at this
        exact this
    rw [hxy, St.uniq hs1.2 hs2.2 ht]

theorem Srt.app {X Y : List Fa} (h : Srt X) (k : Srt Y) (hxy : ∀ x ∈ X, ∀ y ∈ Y, x.1 ≤ y.1) : Srt (X ++ Y) := List.pairwise_append.2 ⟨h, k, hxy⟩
theorem Srt.left {X Y : List Fa} (h : Srt (X ++ Y)) : Srt X := (List.pairwise_append.1 h).1
theorem Srt.right {X Y : List Fa} (h : Srt (X ++ Y)) : Srt Y := (List.pairwise_append.1 h).2.1
theorem Srt.cross {X Y : List Fa} (h : Srt (X ++ Y)) : ∀ x ∈ X, ∀ y ∈ Y, x.1 ≤ y.1 := (List.pairwise_append.1 h).2.2

/-- four parts, put together crosswise -/
theorem merge_parts {X1 X2 Y1 Y2 Z1 Z2 : List Fa} (hX : Srt (X1 ++ X2)) (hY : Srt (Y1 ++ Y2)) (h21 : ∀ y ∈ Y1, ∀ x ∈ X2, y.1 < x.1) (h12 : ∀ x ∈ X1, ∀ y ∈ Y2, x.1 ≤ y.1)
    (hZ1 : Srt Z1) (s1 : St (X1 ++ Y1) Z1) (hZ2 : Srt Z2) (s2 : St (X2 ++ Y2) Z2) : Srt (Z1 ++ Z2) ∧ St (X1 ++ X2 ++ (Y1 ++ Y2)) (Z1 ++ Z2) := by
  refine ⟨hZ1.app hZ2 ?_, ?_⟩
  · intro x hx y hy
    have hx' := s1.symm.mem hx
    have hy' := s2.symm.mem hy
    rcases List.mem_append.1 hx' with ax | ax <;> rcases List.mem_append.1 hy' with ay | ay
    · exact hX.cross x ax y ay
    · exact h12 x ax y ay
    · exact Int.le_of_lt (h21 x ax y ay)
    · exact hY.cross x ax y ay
  · have e : St (X1 ++ X2 ++ (Y1 ++ Y2)) (X1 ++ Y1 ++ (X2 ++ Y2)) := by
      have h := St.swap (X := X2) (Y := Y1) fun x hx y hy e => by have := h21 y hy x hx; omega
      have h2 := ((St.refl X1).app h).app (St.refl Y2)
      simpa [List.append_assoc] using h2
    exact e.trans (s1.app s2)

/-! ### exchanges, as lists -/
theorem arr_at {d : Array Fa} {P Q : List Fa} {x : Fa} (h : d.toList = P ++ x :: Q) : d[P.length]! = x := by
  rw [getElem!_def, ← Array.getElem?_toList, h]
  simp
theorem arr_size {d : Array Fa} {P : List Fa} (h : d.toList = P) : d.size = P.length := by rw [← h]; simp
theorem swp_list {d : Array Fa} {P Q R : List Fa} {x y : Fa} {i j : Nat} (h : d.toList = P ++ x :: (Q ++ y :: R)) (hi : i = P.length) (hj : j = P.length + 1 + Q.length) :
    (swp d i j).toList = P ++ y :: (Q ++ x :: R) := by
  subst hi hj
  have e1 : d[P.length]! = x := arr_at h
  have e2 : d[P.length + 1 + Q.length]! = y := by
    have h2 : d.toList = (P ++ x :: Q) ++ y :: R := by rw [h]; simp
    have := arr_at h2
    simpa [Nat.add_comm, Nat.add_left_comm, Nat.add_assoc] using this
  unfold swp
  rw [e1, e2, Array.toList_setIfInBounds, Array.toList_setIfInBounds, h]
  have a : (P ++ x :: (Q ++ y :: R)).set P.length y = P ++ y :: (Q ++ y :: R) := by simp
  rw [a]
  have b : (P ++ y :: (Q ++ y :: R)).set (P.length + 1 + Q.length) x = P ++ y :: (Q ++ x :: R) := by
    rw [List.set_append_right _ _ (by omega), show P.length + 1 + Q.length - P.length = Q.length + 1 by omega, List.set_cons_succ, List.set_append_right _ _ (by omega)]
    simp
  rw [b]
theorem swp_comm (d : Array Fa) (i j : Nat) (hi : i < d.size) (hj : j < d.size) (hn : i ≠ j) : swp d i j = swp d j i := by
  apply Array.ext
  · simp [size_swp]
  · intro k h1 h2
    have a := swp_get d hi hj k
    have b := swp_get d hj hi k
    rw [getElem!_pos (swp d i j) k h1] at a
    rw [getElem!_pos (swp d j i) k h2] at b
    rw [a, b]
    by_cases e1 : k = j <;> by_cases e2 : k = i <;> simp [e1, e2] <;> simp_all

/-- n exchanges, from a and from b on -/
def swr (d : Array Fa) (a b : Nat) : Nat → Array Fa
  | 0 => d
  | n + 1 => swp (swr d a b n) (a + n) (b + n)
theorem size_swr (d : Array Fa) (a b : Nat) : ∀ n, (swr d a b n).size = d.size
  | 0 => rfl
  | n + 1 => by rw [swr, size_swp, size_swr d a b n]
theorem swr_list {d : Array Fa} {A X M Y B : List Fa} (h : d.toList = A ++ X ++ M ++ Y ++ B) (hl : X.length = Y.length) :
    ∀ k, k ≤ X.length → (swr d A.length (A.length + X.length + M.length) k).toList = A ++ Y.take k ++ X.drop k ++ M ++ X.take k ++ Y.drop k ++ B
  | 0, _ => by simpa [swr] using h
  | k + 1, hk => by
    have ih := swr_list h hl k (by omega)
    obtain ⟨x, hx⟩ : ∃ x, X[k]? = some x := ⟨X[k], by rw [List.getElem?_eq_getElem]⟩
    obtain ⟨y, hy⟩ : ∃ y, Y[k]? = some y := ⟨Y[k]'(by omega), by rw [List.getElem?_eq_getElem]⟩
    obtain ⟨hk1, hx1⟩ := List.getElem?_eq_some_iff.1 hx
    obtain ⟨hk2, hy1⟩ := List.getElem?_eq_some_iff.1 hy
    have ex : X.drop k = x :: X.drop (k + 1) := by rw [List.drop_eq_getElem_cons hk1, hx1]
    have ey : Y.drop k = y :: Y.drop (k + 1) := by rw [List.drop_eq_getElem_cons hk2, hy1]
    have tx : X.take (k + 1) = X.take k ++ [x] := by rw [List.take_add_one, hx]; rfl
    have ty : Y.take (k + 1) = Y.take k ++ [y] := by rw [List.take_add_one, hy]; rfl
    have h1 : (swr d A.length (A.length + X.length + M.length) k).toList = (A ++ Y.take k) ++ x :: ((X.drop (k + 1) ++ M ++ X.take k) ++ y :: (Y.drop (k + 1) ++ B)) := by
      rw [ih, ex, ey]; simp
    rw [swr, swp_list h1 (by simp; omega) (by simp; omega), tx, ty]
    simp
theorem swr_all {d : Array Fa} {A X M Y B : List Fa} {a b n : Nat} (h : d.toList = A ++ X ++ M ++ Y ++ B) (ha : a = A.length) (hb : b = A.length + X.length + M.length) (hn : n = X.length) (hl : X.length = Y.length) :
    (swr d a b n).toList = A ++ Y ++ M ++ X ++ B := by
  subst ha hb hn
  rw [swr_list h hl _ (Nat.le_refl _), hl, List.take_length, List.drop_length, ← hl, List.take_length, List.drop_length]
  simp

/-! ### the insertion sort -/
def cfF (x y : Fa) : Int := Lib.compareInt x.1 y.1
theorem ltF (x y : Fa) : Go.Proofs.ltOf cfF x y = decide (x.1 < y.1) := by
  unfold Go.Proofs.ltOf cfF Lib.compareInt
  by_cases h1 : x.1 < y.1
  · simp [h1]
  · by_cases h2 : y.1 < x.1 <;> simp [h1, h2]
theorem swoF : SWO (Go.Proofs.ltOf cfF) where
  irrefl x := by rw [ltF]; simp
  trans x y z h1 h2 := by rw [ltF] at *; simp at *; omega
  ntrans x y z h1 h2 := by rw [ltF] at *; simp at *; omega

theorem St.swp_next (d : Array Fa) (j : Nat) (hj : j + 1 < d.size) (hl : d[j + 1]!.1 < d[j]!.1) : St d.toList (swp d (j + 1) j).toList := by
  have hn : j + 1 < d.toList.length := by simpa using hj
  have e0 : d.toList = d.toList.take j ++ d.toList[j] :: ([] ++ d.toList[j + 1] :: d.toList.drop (j + 2)) := by
    rw [List.nil_append, ← List.drop_eq_getElem_cons hn, ← List.drop_eq_getElem_cons (by omega), List.take_append_drop]
  have l0 : (d.toList.take j).length = j := by rw [List.length_take]; omega
  have e1 := swp_list (i := j) (j := j + 1) e0 l0.symm (by rw [l0]; rfl)
  rw [swp_comm d (j + 1) j hj (by omega) (by omega), e1]
  have g1 : d[j + 1]! = d.toList[j + 1] := by rw [getElem!_pos d (j + 1) hj]; simp
  have g0 : d[j]! = d.toList[j] := by rw [getElem!_pos d j (by omega)]; simp
  rw [g0, g1] at hl
  generalize d.toList[j + 1] = u at hl e0 ⊢
  generalize d.toList[j] = v at hl e0 ⊢
  have h2 := ((St.refl (d.toList.take j)).app (St.swap (X := [v]) (Y := [u]) (fun x hx y hy => by simp at hx hy; subst hx hy; omega))).app (St.refl (d.toList.drop (j + 2)))
  have e2 : d.toList = d.toList.take j ++ ([v] ++ [u]) ++ d.toList.drop (j + 2) := e0.trans (by simp)
  rw [← e2] at h2
  refine h2.trans ?_
  simp [St.refl]
theorem St.insInner (a : Nat) : ∀ (j : Nat) (d : Array Fa), j < d.size → St d.toList (insInner (Go.Proofs.ltOf cfF) a j d).toList ∧ (insInner (Go.Proofs.ltOf cfF) a j d).size = d.size
  | 0, d, _ => ⟨St.refl _, rfl⟩
  | j + 1, d, hj => by
    rw [Go.Sort.insInner]
    split
    · rename_i h
      have hl : d[j + 1]!.1 < d[j]!.1 := by
        have := (Bool.and_eq_true _ _ ▸ h).2
        rw [ltF] at this
        simpa using this
      have ih := St.insInner a j (swp d (j + 1) j) (by rw [size_swp]; omega)
      exact ⟨(St.swp_next d j hj hl).trans ih.1, by rw [ih.2, size_swp]⟩
    · exact ⟨St.refl _, rfl⟩
theorem St.insOuter (a b : Nat) : ∀ (n i : Nat) (d : Array Fa), b - i ≤ n → b ≤ d.size → St d.toList (insOuter (Go.Proofs.ltOf cfF) a b i d).toList
  | 0, i, d, h, hb => by rw [insOuter_stop _ _ _ _ _ (by omega)]; exact St.refl _
  | n + 1, i, d, h, hb => by
    by_cases hi : i < b
    · have k := St.insInner a i d (by omega)
      rw [insOuter_go _ _ _ _ _ hi]
      exact k.1.trans (St.insOuter a b n (i + 1) _ (by omega) (by rw [k.2]; exact hb))
    · rw [insOuter_stop _ _ _ _ _ hi]; exact St.refl _

theorem split3 (l : List Fa) (a b : Nat) : l = l.take a ++ (l.drop a).take b ++ l.drop (a + b) := by
  rw [List.append_assoc, ← List.drop_drop, List.take_append_drop, List.take_append_drop]
/-- what it leaves, as lists -/
theorem ins_list {d : Array Fa} {A X B : List Fa} {a b : Nat} (h : d.toList = A ++ X ++ B) (ha : a = A.length) (hb : b = A.length + X.length) :
    ∃ X', (insertionSort (Go.Proofs.ltOf cfF) d a b).toList = A ++ X' ++ B ∧ X'.length = X.length ∧ Srt X' ∧ St X X' := by
  subst ha hb
  have hs : d.size = A.length + X.length + B.length := by rw [arr_size h]; simp; omega
  have hk := insertionSort_holds (lt := Go.Proofs.ltOf cfF) swoF d A.length (A.length + X.length) (by omega) (by omega)
  have hst : St d.toList (insertionSort (Go.Proofs.ltOf cfF) d A.length (A.length + X.length)).toList := St.insOuter _ _ _ _ d (Nat.le_refl _) (by omega)
  obtain ⟨⟨hz, hout, _⟩, hsrt⟩ := hk
  generalize insertionSort (Go.Proofs.ltOf cfF) d A.length (A.length + X.length) = d' at hz hout hsrt hst
  have hlen : d'.toList.length = A.length + X.length + B.length := by simp; omega
  have out : ∀ i, i < A.length ∨ A.length + X.length ≤ i → d'.toList[i]? = d.toList[i]? := by
    intro i hi
    have h1 := hout i hi
    rcases Nat.lt_or_ge i d.size with h2 | h2
    · rw [getElem!_pos d' i (by omega), getElem!_pos d i h2] at h1
      rw [Array.getElem?_toList, Array.getElem?_toList, Array.getElem?_eq_getElem (by omega), Array.getElem?_eq_getElem h2, h1]
    · rw [List.getElem?_eq_none (by simp; omega), List.getElem?_eq_none (by simp; omega)]
  have eA : d'.toList.take A.length = A := by
    apply List.ext_getElem?
    intro i
    rcases Nat.lt_or_ge i A.length with h1 | h1
    · rw [List.getElem?_take_of_lt h1, out i (Or.inl h1), h, List.append_assoc, List.getElem?_append_left h1]
    · rw [List.getElem?_eq_none (by simp; omega), List.getElem?_eq_none h1]
  have eB : d'.toList.drop (A.length + X.length) = B := by
    apply List.ext_getElem?
    intro i
    rw [List.getElem?_drop, out _ (Or.inr (by omega)), h, List.getElem?_append_right (by simp)]
    congr 1
    simp
  have e3 := split3 d'.toList A.length X.length
  rw [eA, eB] at e3
  refine ⟨_, e3, ?_, ?_, ?_⟩
  · rw [List.length_take, List.length_drop]; omega
  · refine List.pairwise_iff_getElem.2 ?_
    intro i j hi hj hij
    have hj' : j < X.length := by rw [List.length_take] at hj; omega
    have h1 := hsrt (A.length + i) (A.length + j) (by omega) (by omega) (by omega)
    rw [ltF] at h1
    have g : ∀ t (ht : t < X.length), d'[A.length + t]! = (d'.toList[A.length + t]'(by omega)) := fun t ht => by rw [getElem!_pos d' (A.length + t) (by omega)]; simp
    rw [g i (by omega), g j hj'] at h1
    simp only [List.getElem_take, List.getElem_drop]
    simp only [decide_eq_false_iff_not] at h1
    exact Int.not_lt.1 h1
  · rw [h, e3] at hst
    exact hst.cancel

end Go.Proofs.Ytbpkaegkcknemaa
