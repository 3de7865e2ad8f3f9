/- The place of a fault among all in order, by counting: each place is one's, and one's only. No program in this text. -/
import Derived.Test.YtbpkaegkcknemaaFaP
namespace Go.Proofs.Ytbpkaegkcknemaa

/-- the place of number j -/
def rkF (l : List Fa) (v : Int) (j : Nat) : Nat := l.countP (fun x => decide (x.1 < v)) + (l.take j).countP (fun x => x.1 == v)

theorem filt_bwd {L : List Fa} {i : Nat} (hi : i < L.length) : (L.filter (fun x => x.1 == L[i].1))[(L.take i).countP (fun x => x.1 == L[i].1)]? = some L[i] := by
  have e : L = L.take i ++ L[i] :: L.drop (i + 1) := by rw [← List.drop_eq_getElem_cons hi, List.take_append_drop]
  generalize hx : L[i] = x at e ⊢
  have e2 : L.filter (fun y => y.1 == x.1) = (L.take i).filter (fun y => y.1 == x.1) ++ x :: (L.drop (i + 1)).filter (fun y => y.1 == x.1) := by
    conv => lhs; rw [e]
    rw [List.filter_append, List.filter_cons_of_pos (by simp)]
  rw [e2, List.countP_eq_length_filter, List.getElem?_append_right (Nat.le_refl _), Nat.sub_self]
  rfl
theorem filt_fwd : ∀ {L : List Fa} {v : Int} {c : Nat} {x : Fa}, (L.filter (fun y => y.1 == v))[c]? = some x → ∃ i, ∃ hi : i < L.length, L[i] = x ∧ x.1 = v ∧ (L.take i).countP (fun y => y.1 == v) = c
  | [], v, c, x, h => by simp at h
  | y :: t, v, c, x, h => by
    by_cases hy : y.1 = v
    · rw [List.filter_cons_of_pos (by simpa using hy)] at h
      cases c with
      | zero =>
        simp at h
        subst h
        exact ⟨0, by simp, rfl, hy, rfl⟩
      | succ c =>
        rw [List.getElem?_cons_succ] at h
        obtain ⟨i, hi, h1, h2, h3⟩ := filt_fwd h
        refine ⟨i + 1, by simpa using hi, by simpa using h1, h2, ?_⟩
        rw [List.take_succ_cons, List.countP_cons_of_pos (by simpa using hy), h3]
    · rw [List.filter_cons_of_neg (by simpa using hy)] at h
      obtain ⟨i, hi, h1, h2, h3⟩ := filt_fwd h
      refine ⟨i + 1, by simpa using hi, by simpa using h1, h2, ?_⟩
      rw [List.take_succ_cons, List.countP_cons_of_neg (by simpa using hy), h3]
theorem St.perm {l R : List Fa} (h : St l R) : l.Perm R := by
  rw [List.perm_iff_count]
  intro x
  have h1 : ∀ L : List Fa, L.count x = (L.filter (fun y => y.1 == x.1)).count x := fun L => (List.count_filter (by simp)).symm
  rw [h1 l, h1 R, h x.1]
theorem split_cnt {l : List Fa} {v : Int} (h : ∀ x ∈ l, x.1 ≤ v) : l.countP (fun x => decide (x.1 < v)) + l.countP (fun x => x.1 == v) = l.length := by
  induction l with
  | nil => rfl
  | cons y t ih =>
    have ih := ih fun x hx => h x (List.mem_cons_of_mem _ hx)
    have hy := h y List.mem_cons_self
    by_cases e : y.1 = v
    · rw [List.countP_cons_of_neg (by simp; omega), List.countP_cons_of_pos (by simpa using e), List.length_cons]; omega
    · rw [List.countP_cons_of_pos (by simp; omega), List.countP_cons_of_neg (by simpa using e), List.length_cons]; omega
theorem srt_place {R : List Fa} (hs : Srt R) {n : Nat} (hn : n < R.length) : rkF R R[n].1 n = n := by
  have e : R = R.take n ++ R[n] :: R.drop (n + 1) := by rw [← List.drop_eq_getElem_cons hn, List.take_append_drop]
  have hl : (R.take n).length = n := by rw [List.length_take]; omega
  generalize R[n] = x at e ⊢
  generalize R.take n = A at e hl ⊢
  generalize R.drop (n + 1) = B at e
  unfold rkF
  subst e
  have h1 : ∀ y ∈ A, y.1 ≤ x.1 := fun y hy => hs.cross y hy x List.mem_cons_self
  have h2 : ∀ y ∈ B, x.1 ≤ y.1 := fun y hy => (List.pairwise_cons.1 hs.right).1 y hy
  have hz : B.countP (fun y => decide (y.1 < x.1)) = 0 := by
    rw [List.countP_eq_zero]
    intro y hy
    have := h2 y hy
    simp; omega
  have hk := split_cnt h1
  rw [List.countP_append, List.countP_cons_of_neg (by simp), hz, List.take_left' hl]
  omega
theorem rk_at {l R : List Fa} (hs : Srt R) (hst : St l R) {j : Nat} (hj : j < l.length) : ∃ h : rkF l l[j].1 j < R.length, R[rkF l l[j].1 j] = l[j] := by
  have h1 := filt_bwd hj
  rw [hst l[j].1] at h1
  obtain ⟨n, hn, e1, e2, e3⟩ := filt_fwd h1
  have h2 := srt_place hs hn
  have e4 : rkF l l[j].1 j = n := by
    unfold rkF at h2 ⊢
    rw [e1] at h2
    rw [hst.perm.countP_eq, ← e3]
    exact h2
  refine ⟨by rw [e4]; exact hn, ?_⟩
  simp only [e4]
  exact e1
theorem rk_all {l R : List Fa} (hs : Srt R) (hst : St l R) {n : Nat} (hn : n < R.length) : ∃ j, ∃ hj : j < l.length, rkF l l[j].1 j = n := by
  have h1 := filt_bwd hn
  rw [← hst R[n].1] at h1
  obtain ⟨j, hj, e1, e2, e3⟩ := filt_fwd h1
  refine ⟨j, hj, ?_⟩
  have h2 := srt_place hs hn
  unfold rkF at h2 ⊢
  rw [e1, hst.perm.countP_eq, e3]
  exact h2

/-- the count, when so many have been looked at -/
def rkTo (l : List Fa) (v : Int) (j t : Nat) : Nat := (l.take t).countP (fun x => decide (x.1 < v)) + (l.take (min t j)).countP (fun x => x.1 == v)
theorem rkTo_all {l : List Fa} {v : Int} {j : Nat} (hj : j ≤ l.length) : rkTo l v j l.length = rkF l v j := by
  unfold rkTo rkF
  rw [List.take_length, Nat.min_eq_right hj]
theorem take_cnt {l : List Fa} {t : Nat} (ht : t < l.length) (p : Fa → Bool) : (l.take (t + 1)).countP p = (l.take t).countP p + if p l[t] then 1 else 0 := by
  rw [List.take_add_one, List.getElem?_eq_getElem ht, Option.toList_some, List.countP_append, List.countP_singleton]
theorem rkTo_yes {l : List Fa} {v : Int} {j t : Nat} (ht : t < l.length) (h : l[t].1 < v ∨ (l[t].1 = v ∧ t < j)) : rkTo l v j (t + 1) = rkTo l v j t + 1 := by
  unfold rkTo
  rw [take_cnt ht]
  by_cases htj : t < j
  · rw [Nat.min_eq_left (by omega), Nat.min_eq_left (by omega), take_cnt ht]
    rcases h with h | ⟨h, _⟩
    · rw [if_pos (by simpa using h), if_neg (by simp; omega)]; omega
    · rw [if_neg (by simp; omega), if_pos (by simpa using h)]; omega
  · rw [Nat.min_eq_right (by omega), Nat.min_eq_right (by omega)]
    rcases h with h | ⟨_, h⟩
    · rw [if_pos (by simpa using h)]; omega
    · omega
theorem rkTo_no {l : List Fa} {v : Int} {j t : Nat} (ht : t < l.length) (h : ¬ (l[t].1 < v ∨ (l[t].1 = v ∧ t < j))) : rkTo l v j (t + 1) = rkTo l v j t := by
  unfold rkTo
  rw [take_cnt ht, if_neg (by simp; omega)]
  by_cases htj : t < j
  · rw [Nat.min_eq_left (by omega), Nat.min_eq_left (by omega), take_cnt ht, if_neg (by simp; omega)]
    omega
  · rw [Nat.min_eq_right (by omega), Nat.min_eq_right (by omega)]
    omega
theorem rkTo_le (l : List Fa) (v : Int) (j t : Nat) : rkTo l v j t ≤ 2 * l.length := by
  unfold rkTo
  have h1 := List.countP_le_length (p := fun x : Fa => decide (x.1 < v)) (l := l.take t)
  have h2 := List.countP_le_length (p := fun x : Fa => x.1 == v) (l := l.take (min t j))
  rw [List.length_take] at h1 h2
  omega

end Go.Proofs.Ytbpkaegkcknemaa
