/- What the library's merge in place leaves, as lists: one row into another, the cut of two rows, the two halves. No program in this text. -/
import Derived.Test.YtbpkaegkcknemaaFaS1
namespace Go.Proofs.Ytbpkaegkcknemaa
set_option maxRecDepth 100000
open Go.Sort

theorem cf_lt (x y : Fa) : cfF x y < 0 ↔ x.1 < y.1 := by
  have h := ltF x y
  unfold Go.Proofs.ltOf at h
  exact decide_eq_decide.1 h

/-- two sorted rows, one behind the other, from a to m and from m to b -/
structure SyL (a m b : Nat) (d : Array Fa) (A X Y B : List Fa) : Prop where
  h : d.toList = A ++ X ++ Y ++ B
  ea : a = A.length
  em : m = a + X.length
  eb : b = m + Y.length
  sX : Srt X
  sY : Srt Y
/-- they are one sorted row -/
def SyE (A X Y B : List Fa) (d : Array Fa) : Prop := ∃ Z, d.toList = A ++ Z ++ B ∧ Srt Z ∧ St (X ++ Y) Z

section
variable {a m b : Nat} {d : Array Fa} {A X Y B : List Fa}
theorem SyL.size (s : SyL a m b d A X Y B) : b ≤ d.size := by
  have := arr_size s.h
  have h1 := s.ea; have h2 := s.em; have h3 := s.eb
  simp at this
  omega
theorem SyL.gX (s : SyL a m b d A X Y B) {t : Nat} (ht : t < X.length) : d[a + t]! = X[t] := by
  rw [s.ea, getElem!_def, ← Array.getElem?_toList, s.h, List.append_assoc, List.append_assoc, List.getElem?_append_right (by omega), show A.length + t - A.length = t by omega, List.getElem?_append_left ht, List.getElem?_eq_getElem ht]
theorem SyL.gY (s : SyL a m b d A X Y B) {t : Nat} (ht : t < Y.length) : d[m + t]! = Y[t] := by
  have e : d.toList = (A ++ X) ++ (Y ++ B) := by rw [s.h]; simp
  have l : m + t = (A ++ X).length + t := by rw [s.em, s.ea]; simp
  rw [l, getElem!_def, ← Array.getElem?_toList, e, List.getElem?_append_right (by omega), show (A ++ X).length + t - (A ++ X).length = t by omega, List.getElem?_append_left ht, List.getElem?_eq_getElem ht]
theorem Srt.idx {l : List Fa} (h : Srt l) {i j : Nat} (hij : i ≤ j) (hj : j < l.length) : (l[i]'(by omega)).1 ≤ l[j].1 := by
  rcases Nat.lt_or_ge i j with h1 | h1
  · exact List.pairwise_iff_getElem.1 h i j (by omega) hj h1
  · obtain rfl : i = j := by omega
    exact Int.le_refl _
theorem SyL.mX (s : SyL a m b d A X Y B) {i j : Nat} (ha : a ≤ i) (hij : i ≤ j) (hj : j < m) : d[i]!.1 ≤ d[j]!.1 := by
  have h2 := s.em
  have e1 := s.gX (t := i - a) (by omega)
  have e2 := s.gX (t := j - a) (by omega)
  rw [show a + (i - a) = i by omega] at e1
  rw [show a + (j - a) = j by omega] at e2
  rw [e1, e2]
  exact s.sX.idx (by omega) (by omega)
theorem SyL.mY (s : SyL a m b d A X Y B) {i j : Nat} (ha : m ≤ i) (hij : i ≤ j) (hj : j < b) : d[i]!.1 ≤ d[j]!.1 := by
  have h2 := s.eb
  have e1 := s.gY (t := i - m) (by omega)
  have e2 := s.gY (t := j - m) (by omega)
  rw [show m + (i - m) = i by omega] at e1
  rw [show m + (j - m) = j by omega] at e2
  rw [e1, e2]
  exact s.sY.idx (by omega) (by omega)
theorem mem_take {l : List Fa} {q : Nat} {x : Fa} (h : x ∈ l.take q) : ∃ t, ∃ ht : t < l.length, t < q ∧ l[t] = x := by
  obtain ⟨t, ht, e⟩ := List.mem_iff_getElem.1 h
  have h2 : t < q ∧ t < l.length := by rw [List.length_take] at ht; omega
  exact ⟨t, h2.2, h2.1, by rw [← e, List.getElem_take]⟩
theorem mem_drop {l : List Fa} {q : Nat} {x : Fa} (h : x ∈ l.drop q) : ∃ t, ∃ ht : t < l.length, q ≤ t ∧ l[t] = x := by
  obtain ⟨t, ht, e⟩ := List.mem_iff_getElem.1 h
  rw [List.length_drop] at ht
  exact ⟨q + t, by omega, by omega, by rw [← e, List.getElem_drop]⟩

/-- the cut -/
theorem SyL.cut (s : SyL a m b d A X Y B) {p e : Nat} (hp : a ≤ p) (hp2 : p ≤ m) (he : m ≤ e) (he2 : e ≤ b)
    (h21 : ∀ i j, p ≤ i → i < m → m ≤ j → j < e → d[j]!.1 < d[i]!.1) (h12 : ∀ i j, a ≤ i → i < p → e ≤ j → j < b → d[i]!.1 ≤ d[j]!.1) :
    ∃ X1 X2 Y1 Y2, X = X1 ++ X2 ∧ Y = Y1 ++ Y2 ∧ X1.length = p - a ∧ X2.length = m - p ∧ Y1.length = e - m ∧ Y2.length = b - e ∧
      (∀ y ∈ Y1, ∀ x ∈ X2, y.1 < x.1) ∧ (∀ x ∈ X1, ∀ y ∈ Y2, x.1 ≤ y.1) := by
  have h1 := s.ea; have h2 := s.em; have h3 := s.eb
  refine ⟨X.take (p - a), X.drop (p - a), Y.take (e - m), Y.drop (e - m), by simp, by simp, by rw [List.length_take]; omega, by rw [List.length_drop]; omega, by rw [List.length_take]; omega, by rw [List.length_drop]; omega, ?_, ?_⟩
  · intro y hy x hx
    obtain ⟨t, ht, ht2, rfl⟩ := mem_take hy
    obtain ⟨u, hu, hu2, rfl⟩ := mem_drop hx
    rw [← s.gY ht, ← s.gX hu]
    exact h21 _ _ (by omega) (by omega) (by omega) (by omega)
  · intro x hx y hy
    obtain ⟨t, ht, ht2, rfl⟩ := mem_take hx
    obtain ⟨u, hu, hu2, rfl⟩ := mem_drop hy
    rw [← s.gX ht, ← s.gY hu]
    exact h12 _ _ (by omega) (by omega) (by omega) (by omega)

/-- where the search for the cut ends -/
theorem SyL.found (s : SyL a m b d A X Y B) {p s0 r0 mid : Nat} (ham : a < m) (hmb : m < b) (hmid : mid = (a + b) / 2)
    (hc : m > mid ∧ s0 = mid + m - b ∧ r0 = mid ∨ ¬ m > mid ∧ s0 = a ∧ r0 = m) (hp : s0 ≤ p) (hp2 : p ≤ r0)
    (lo : s0 < p → d[p - 1]!.1 ≤ d[mid + m - p]!.1) (hi : p < r0 → d[mid + m - 1 - p]!.1 < d[p]!.1) :
    ∃ X1 X2 Y1 Y2, X = X1 ++ X2 ∧ Y = Y1 ++ Y2 ∧ X1.length = p - a ∧ X2.length = m - p ∧ Y1.length = mid + m - p - m ∧ Y2.length = b - (mid + m - p) ∧
      (∀ y ∈ Y1, ∀ x ∈ X2, y.1 < x.1) ∧ (∀ x ∈ X1, ∀ y ∈ Y2, x.1 ≤ y.1) := by
  refine s.cut (by omega) (by omega) (by omega) (by omega) ?_ ?_
  · intro i j hi1 hi2 hj1 hj2
    have h1 := s.mX (i := p) (j := i) (by omega) hi1 hi2
    have h2 := s.mY (i := j) (j := mid + m - 1 - p) hj1 (by omega) (by omega)
    have h3 := hi (by omega)
    omega
  · intro i j hi1 hi2 hj1 hj2
    have h1 := s.mX (i := i) (j := p - 1) hi1 (by omega) (by omega)
    have h2 := s.mY (i := mid + m - p) (j := j) (by omega) hj1 hj2
    have h3 := lo (by omega)
    omega

/-- one row ahead of the others, moved on: kk of them have been passed -/
def MvR (A : List Fa) (x : Fa) (Y B : List Fa) (kk : Nat) (d : Array Fa) : Prop := kk ≤ Y.length ∧ d.toList = A ++ Y.take kk ++ x :: (Y.drop kk ++ B)
theorem MvR.step {x : Fa} {kk : Nat} (h : MvR A x Y B kk d) (hk : kk < Y.length) (ha : a = A.length) : MvR A x Y B (kk + 1) (swp d (a + kk) (a + kk + 1)) := by
  obtain ⟨_, h⟩ := h
  refine ⟨hk, ?_⟩
  have e1 : Y.drop kk = Y[kk] :: Y.drop (kk + 1) := List.drop_eq_getElem_cons hk
  have e2 : Y.take (kk + 1) = Y.take kk ++ [Y[kk]] := by rw [List.take_add_one, List.getElem?_eq_getElem hk]; rfl
  rw [e1] at h
  have h2 : d.toList = (A ++ Y.take kk) ++ x :: ([] ++ Y[kk] :: (Y.drop (kk + 1) ++ B)) := by rw [h]; simp only [List.append_assoc, List.cons_append, List.nil_append]
  have l : (A ++ Y.take kk).length = a + kk := by rw [ha]; simp; omega
  have h3 := swp_list (i := a + kk) (j := a + kk + 1) h2 l.symm (by rw [l]; simp)
  rw [h3, e2]
  simp only [List.append_assoc, List.cons_append, List.nil_append]
/-- and one row behind the others, moved back -/
theorem MvR.back {x : Fa} {kk : Nat} (h : MvR A x Y B (kk + 1) d) (ha : a = A.length) : MvR A x Y B kk (swp d (a + kk + 1) (a + kk)) := by
  obtain ⟨hk, h⟩ := h
  refine ⟨by omega, ?_⟩
  have e1 : Y.drop kk = Y[kk] :: Y.drop (kk + 1) := List.drop_eq_getElem_cons (by omega)
  have e2 : Y.take (kk + 1) = Y.take kk ++ [Y[kk]] := by rw [List.take_add_one, List.getElem?_eq_getElem (by omega)]; rfl
  rw [e2] at h
  have h2 : d.toList = (A ++ Y.take kk) ++ Y[kk] :: ([] ++ x :: (Y.drop (kk + 1) ++ B)) := by rw [h]; simp only [List.append_assoc, List.cons_append, List.nil_append]
  have l : (A ++ Y.take kk).length = a + kk := by rw [ha]; simp; omega
  have h3 := swp_list (i := a + kk) (j := a + kk + 1) h2 l.symm (by rw [l]; simp)
  have hz : d.size = A.length + Y.length + 1 + B.length := by rw [arr_size h]; simp; omega
  rw [swp_comm d (a + kk + 1) (a + kk) (by omega) (by omega) (by omega), h3, e1]
  simp only [List.append_assoc, List.cons_append, List.nil_append]

/-- a row of one, put into the other -/
theorem SyL.one_start (s : SyL a m b d A X Y B) (h1 : m = a + 1) : ∃ x, X = [x] ∧ d[a]! = x ∧ MvR A x Y B 0 d := by
  have h2 := s.em
  obtain ⟨x, rfl⟩ : ∃ x, X = [x] := List.length_eq_one_iff.1 (by omega)
  refine ⟨x, rfl, ?_, Nat.zero_le _, by rw [s.h]; simp⟩
  exact s.gX (t := 0) (by simp)
theorem SyL.one_end (s : SyL a m b d A X Y B) {x : Fa} (hX : X = [x]) (hx : d[a]! = x) {i : Nat} (hi : m ≤ i) (hi2 : i ≤ b) (lo : m < i → d[i - 1]!.1 < x.1) (hh : i < b → x.1 ≤ d[i]!.1)
    {d' : Array Fa} (h' : MvR A x Y B (i - m) d') : SyE A X Y B d' := by
  have h1 := s.ea; have h2 := s.em; have h3 := s.eb
  subst hX
  have h2' : m = a + 1 := h2
  obtain ⟨_, h'⟩ := h'
  refine ⟨Y.take (i - m) ++ x :: Y.drop (i - m), by rw [h']; simp, ?_⟩
  have hcut : (∀ y ∈ Y.take (i - m), ∀ z ∈ [x], y.1 < z.1) ∧ (∀ y ∈ Y.drop (i - m), x.1 ≤ y.1) := by
    refine ⟨fun y hy z hz => ?_, fun y hy => ?_⟩
    · obtain rfl : z = x := by simpa using hz
      obtain ⟨t, ht, ht2, rfl⟩ := mem_take hy
      rw [← s.gY ht]
      have h4 := s.mY (i := m + t) (j := i - 1) (by omega) (by omega) (by omega)
      have h5 := lo (by omega)
      omega
    · obtain ⟨t, ht, ht2, rfl⟩ := mem_drop hy
      rw [← s.gY ht]
      have h4 := s.mY (i := i) (j := m + t) (by omega) (by omega) (by omega)
      have h5 := hh (by omega)
      omega
  have e := List.take_append_drop (i - m) Y
  have hs := s.sY
  generalize Y.take (i - m) = Y1 at e hcut
  generalize Y.drop (i - m) = Y2 at e hcut
  subst e
  have hz2 : Srt ([x] ++ Y2) := Srt.app (List.pairwise_singleton _ _) hs.right fun z hz y hy => by
    obtain rfl : z = x := by simpa using hz
    exact hcut.2 y hy
  have := merge_parts (X1 := []) (X2 := [x]) (Y1 := Y1) (Y2 := Y2) (Z1 := Y1) (Z2 := [x] ++ Y2) (List.pairwise_singleton _ _) hs hcut.1 (fun x hx => by simp at hx) hs.left (by simpa using St.refl Y1) hz2 (St.refl _)
  simpa using this
theorem SyL.last_start (s : SyL a m b d A X Y B) (h1 : b = m + 1) : ∃ y, Y = [y] ∧ d[m]! = y ∧ MvR A y X B (m - a) d := by
  have h2 := s.eb; have h3 := s.em
  obtain ⟨y, rfl⟩ : ∃ x, Y = [x] := List.length_eq_one_iff.1 (by omega)
  refine ⟨y, rfl, ?_, by omega, ?_⟩
  · exact s.gY (t := 0) (by simp)
  · rw [s.h, show m - a = X.length by omega]; simp
theorem SyL.last_end (s : SyL a m b d A X Y B) {y : Fa} (hY : Y = [y]) {i : Nat} (hi : a ≤ i) (hi2 : i ≤ m) (lo : a < i → d[i - 1]!.1 ≤ y.1) (hh : i < m → y.1 < d[i]!.1)
    {d' : Array Fa} (h' : MvR A y X B (i - a) d') : SyE A X Y B d' := by
  have h1 := s.ea; have h2 := s.em; have h3 := s.eb
  subst hY
  obtain ⟨_, h'⟩ := h'
  refine ⟨X.take (i - a) ++ y :: X.drop (i - a), by rw [h']; simp, ?_⟩
  have hcut : (∀ x ∈ X.take (i - a), x.1 ≤ y.1) ∧ (∀ z ∈ [y], ∀ x ∈ X.drop (i - a), z.1 < x.1) := by
    refine ⟨fun x hx => ?_, fun z hz x hx => ?_⟩
    · obtain ⟨t, ht, ht2, rfl⟩ := mem_take hx
      rw [← s.gX ht]
      have h4 := s.mX (i := a + t) (j := i - 1) (by omega) (by omega) (by omega)
      have h5 := lo (by omega)
      omega
    · obtain rfl : z = y := by simpa using hz
      obtain ⟨t, ht, ht2, rfl⟩ := mem_drop hx
      rw [← s.gX ht]
      have h4 := s.mX (i := i) (j := a + t) (by omega) (by omega) (by omega)
      have h5 := hh (by omega)
      omega
  have e := List.take_append_drop (i - a) X
  have hs := s.sX
  generalize X.take (i - a) = X1 at e hcut
  generalize X.drop (i - a) = X2 at e hcut
  subst e
  have hz1 : Srt (X1 ++ [y]) := Srt.app hs.left (List.pairwise_singleton _ _) fun x hx z hz => by
    obtain rfl : z = y := by simpa using hz
    exact hcut.1 x hx
  have := merge_parts (X1 := X1) (X2 := X2) (Y1 := [y]) (Y2 := []) (Z1 := X1 ++ [y]) (Z2 := X2) hs (List.pairwise_singleton _ _) hcut.2 (fun x _ y hy => by simp at hy) hz1 (St.refl _) hs.right (by simpa using St.refl X2)
  simpa using this

/-- behind the rotation: the four parts, crosswise -/
def Crs (A X1 Y1 X2 Y2 B : List Fa) (d : Array Fa) : Prop := d.toList = A ++ X1 ++ Y1 ++ X2 ++ Y2 ++ B
end

end Go.Proofs.Ytbpkaegkcknemaa
