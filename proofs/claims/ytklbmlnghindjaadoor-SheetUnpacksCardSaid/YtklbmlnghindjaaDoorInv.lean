/- A region that draws its order, by a fact of each operation's value that stays true whatever comes after it: no order is looked at. -/
import Derived.Orders
namespace Go.Proofs.YtklbmlnghindjaaDoor

section
variable {P : Program} {ops : Array Oper} {Q : Exit → Act → World → Prop} {md : Region.Mode}

/-- what operation number i has left in its temporary -/
def slotOf (ops : Array Oper) (i : Nat) (a : Act) : Value := match (ops[i]?).bind (·.dst) with
  | some d => a.tmps.getD d undef
  | none => undef
/-- how many are still to come -/
def still (n : Nat) (listed : Array Bool) : Nat := ((List.range n).filter fun i => !listed.getD i true).length

theorem still_zero {n : Nat} {listed : Array Bool} (h : still n listed = 0) : ∀ i, i < n → listed.getD i true = true := by
  intro i hi
  have h2 : (List.range n).filter (fun i => !listed.getD i true) = [] := List.eq_nil_of_length_eq_zero h
  have h3 := List.filter_eq_nil_iff.1 h2 i (List.mem_range.2 hi)
  simpa using h3
theorem filter_less {α : Type} (l : List α) (p q : α → Bool) (hpq : ∀ x, x ∈ l → q x = true → p x = true) (x : α) (hx : x ∈ l) (hp : p x = true) (hq : q x = false) : (l.filter q).length < (l.filter p).length := by
  induction l with
  | nil => cases hx
  | cons y l ih =>
    have hle : (l.filter q).length ≤ (l.filter p).length := by
      clear ih hx
      induction l with
      | nil => exact Nat.le_refl _
      | cons z l ih2 =>
        have hz := hpq z (by simp)
        have ih3 := ih2 (fun x hx => hpq x (by simp at hx ⊢; rcases hx with h | h <;> simp [h]))
        cases hq' : q z with
        | true => simp [hq', hz hq']; exact ih3
        | false => cases hp' : p z <;> simp [hq', hp'] <;> omega
    rcases List.mem_cons.1 hx with rfl | hx
    · simp [hp, hq]; omega
    · have ih4 := ih (fun z hz => hpq z (List.mem_cons_of_mem _ hz)) hx
      cases hq' : q y with
      | true => simp [hq', hpq y (by simp) hq']; exact ih4
      | false => cases hp' : p y <;> simp [hq', hp'] <;> omega
theorem still_less {n i : Nat} {listed : Array Bool} (hi : i < n) (h : listed.getD i true = false) : still n (listed.setIfInBounds i true) < still n listed := by
  unfold still
  refine filter_less _ _ _ ?_ i (List.mem_range.2 hi) (by simp [h]) ?_
  · intro x _ hx
    by_cases e : i = x
    · subst e
      have hs : i < listed.size := by
        rcases Nat.lt_or_ge i listed.size with h' | h'
        · exact h'
        · simp [Array.getD, Nat.not_lt.2 h'] at h
      simp [Array.getD, hs] at hx
    · simp [getD_set_ne true e] at hx ⊢; exact hx
  · have hs : i < listed.size := by
      rcases Nat.lt_or_ge i listed.size with h' | h'
      · exact h'
      · simp [Array.getD, Nat.not_lt.2 h'] at h
    simp [Array.getD, hs]


theorem slotOf_same {i : Nat} {o : Oper} {d : Tmp} {a : Act} {v : Value} (ho : ops[i]? = some o) (hd : o.dst = some d) (hs : d < a.tmps.size) : slotOf ops i (a.put o.dst v) = v := by
  unfold slotOf
  simp [ho, hd, Act.put, Array.getD, hs]
theorem slotOf_other {i j : Nat} {o o' : Oper} {d d' : Tmp} {a : Act} {v : Value} (_ho : ops[i]? = some o) (hd : o.dst = some d) (ho' : ops[j]? = some o') (hd' : o'.dst = some d') (hne : d ≠ d') : slotOf ops j (a.put o.dst v) = slotOf ops j a := by
  unfold slotOf
  simp only [ho', hd', Option.bind_some, hd, Act.put]
  simp [Array.getD_eq_getD_getElem?, Array.getElem?_setIfInBounds_ne hne]

/-- every operation waits for earlier ones alone, and has a temporary of its own -/
structure Plain (ops : Array Oper) (Base : Act → Prop) : Prop where
  before : ∀ (i : Nat) (o : Oper), ops[i]? = some o → ∀ e ∈ o.after, e.on < i
  own : ∀ (i : Nat) (o : Oper), ops[i]? = some o → ∃ d, o.dst = some d ∧ (∀ a, Base a → d < a.tmps.size) ∧ ∀ (j : Nat) (o' : Oper), ops[j]? = some o' → j ≠ i → ∃ d', o'.dst = some d' ∧ d ≠ d'

/-- WHATEVER ORDER IS PICKED: each operation, in whatever world of the class and whatever frame in which the facts of those that it waits for hold, leaves a value of which its own fact holds; facts stay true as the world goes on. -/
theorem wpAny_facts {Base : Act → Prop} {C : World → Prop} {T : World → World → Prop} {R : Nat → Value → World → Prop} (hpl : Plain ops Base)
    (hmono : ∀ i v w w', R i v w → T w w' → R i v w') (hbase : ∀ (i : Nat) (o : Oper), ops[i]? = some o → ∀ a v, Base a → Base (a.put o.dst v))
    (hops : ∀ (i : Nat) (o : Oper), ops[i]? = some o → ∀ a w, C w → Base a → (∀ e ∈ o.after, Region.binds md e = true → R e.on (slotOf ops e.on a) w) →
      wpOp P ops Q i (fun a' w' => ∃ v, a' = a.put o.dst v ∧ C w' ∧ T w w' ∧ R i v w') a w)
    (hfin : ∀ a w, C w → Base a → (∀ i, i < ops.size → R i (slotOf ops i a) w) → Q .normal a w) :
    ∀ (fuel : Nat) (listed : Array Bool) (a : Act) (w : World), still ops.size listed ≤ fuel → listed.size = ops.size → C w → Base a →
      (∀ i, i < ops.size → listed.getD i true = true → R i (slotOf ops i a) w) → wpAny P md ops Q fuel listed a w := by
  have all : ∀ (listed : Array Bool), listed.size = ops.size → Region.ready md ops listed = [] → ∀ i, i < ops.size → listed.getD i true = true := by
    intro listed hsz hr i
    induction i using Nat.strongRecOn with
    | ind i ih =>
      intro hi
      cases hl : listed.getD i true with
      | true => rfl
      | false =>
        exfalso
        have hm : i ∈ Region.ready md ops listed := by
          rw [mem_ready]
          refine ⟨hl, ops[i], by simp [hi], fun e he _ => ?_⟩
          have hlt := hpl.before i ops[i] (by simp [hi]) e he
          have h2 := ih e.on hlt (by omega)
          have h3 : e.on < listed.size := by omega
          simp [Array.getD, h3] at h2 ⊢
          exact h2
        rw [hr] at hm; cases hm
  intro fuel
  induction fuel with
  | zero =>
    intro listed a w hst hsz hC hB hR
    have hall := still_zero (Nat.le_zero.1 hst)
    have hr : Region.ready md ops listed = [] := by
      cases h : Region.ready md ops listed with
      | nil => rfl
      | cons i l =>
        have hm : i ∈ Region.ready md ops listed := by rw [h]; exact List.mem_cons_self
        obtain ⟨h1, o, ho, _⟩ := mem_ready.1 hm
        have hi : i < ops.size := (Array.getElem?_eq_some_iff.1 ho).1
        rw [hall i hi] at h1; cases h1
    exact ⟨hr, hfin a w hC hB fun i hi => hR i hi (hall i hi)⟩
  | succ fuel ih =>
    intro listed a w hst hsz hC hB hR
    refine ⟨fun hr => hfin a w hC hB fun i hi => hR i hi (all listed hsz hr i hi), fun i hi => ?_⟩
    obtain ⟨h1, o, ho, hdeps⟩ := mem_ready.1 hi
    have hin : i < ops.size := (Array.getElem?_eq_some_iff.1 ho).1
    refine wpOp_mono ?_ (hops i o ho a w hC hB fun e he hb => ?_)
    · rintro a' w' ⟨v, rfl, hC', hT, hRv⟩
      obtain ⟨d, hd, hds, hdo⟩ := hpl.own i o ho
      have hless := still_less hin h1
      refine ih _ _ _ (by omega) (by simp [hsz]) hC' (hbase i o ho a v hB) fun j hj hlj => ?_
      by_cases e : j = i
      · subst e
        rw [slotOf_same ho hd (hds a hB)]; exact hRv
      · obtain ⟨d', hd', hne⟩ := hdo j ops[j] (by simp [hj]) e
        rw [slotOf_other ho hd (by simp [hj]) hd' hne]
        rw [getD_set_ne true (Ne.symm e)] at hlj
        exact hmono j _ _ _ (hR j hj hlj) hT
    · have hlt := hpl.before i o ho e he
      have h2 := hdeps e he hb
      refine hR e.on (by omega) ?_
      have h3 : e.on < listed.size := by omega
      simp [Array.getD, h3] at h2 ⊢
      exact h2

/-- the same, of a region -/
theorem wp_region_facts {id : Nat} {a : Act} {w : World} {Base : Act → Prop} {C : World → Prop} {T : World → World → Prop} {R : Nat → Value → World → Prop} (hm : P.follows .mixedOrders = true) (hpl : Plain ops Base)
    (hmono : ∀ i v w w', R i v w → T w w' → R i v w') (hbase : ∀ (i : Nat) (o : Oper), ops[i]? = some o → ∀ a v, Base a → Base (a.put o.dst v))
    (hC : C { w with drawn := w.drawn + 1 }) (hB : Base a)
    (hops : ∀ (i : Nat) (o : Oper), ops[i]? = some o → ∀ a w, C w → Base a → (∀ e ∈ o.after, Region.binds .any e = true → R e.on (slotOf ops e.on a) w) →
      wpOp P ops Q i (fun a' w' => ∃ v, a' = a.put o.dst v ∧ C w' ∧ T w w' ∧ R i v w') a w)
    (hfin : ∀ a w, C w → Base a → (∀ i, i < ops.size → R i (slotOf ops i a) w) → Q .normal a w) : (Code.region id ops true).wp P Q a w := by
  refine wp_region_any hm (wpAny_facts hpl hmono hbase hops hfin _ _ _ _ ?_ (by simp) hC hB ?_)
  · unfold still
    exact Nat.le_trans (List.length_filter_le _ _) (by simp)
  · intro i hi h
    simp [Array.getD, hi] at h

theorem wpOp_of {i : Nat} {o : Oper} {a : Act} {w : World} {K : Act → World → Prop} (ho : ops[i]? = some o) (hg : o.guard = none) (h : o.wp P a w K Q) : wpOp P ops Q i K a w := by
  unfold wpOp
  simp only [ho, Region.wanted, hg, if_true]
  exact Or.inl h
/-- a fact of each operation, one by one -/
def AllFrom (X : Nat → Oper → Prop) : Nat → List Oper → Prop
  | _, [] => True
  | k, o :: l => X k o ∧ AllFrom X (k + 1) l
theorem AllFrom.at {X : Nat → Oper → Prop} : ∀ {l : List Oper} {k : Nat}, AllFrom X k l → ∀ j o, l[j]? = some o → X (k + j) o
  | [], _, _, j, o, h => by simp at h
  | p :: l, k, h, 0, o, ho => by simp at ho; subst ho; exact h.1
  | p :: l, k, h, j + 1, o, ho => by
    have := AllFrom.at h.2 j o (by simpa using ho)
    rwa [show k + 1 + j = k + (j + 1) by omega] at this
theorem AllFrom.all {X : Nat → Oper → Prop} {l : List Oper} (h : AllFrom X 0 l) : ∀ (i : Nat) (o : Oper), l.toArray[i]? = some o → X i o := fun i o ho => by
  have := AllFrom.at h i o (by simpa using ho)
  rwa [Nat.zero_add] at this
/-- the temporaries of a region's operations -/
def dsts (l : List Oper) : List Tmp := l.filterMap (·.dst)
/-- Plain, as a Bool -/
def plainB (l : List Oper) (n : Nat) : Bool :=
  (List.range l.length).all fun i => match l[i]? with
    | none => true
    | some o => (o.after.all fun e => decide (e.on < i)) && (match o.dst with
      | none => false
      | some d => decide (d < n) && (List.range l.length).all fun j => j == i || (match (l[j]?).bind (·.dst) with | some d' => d != d' | none => false))
theorem plain_of {l : List Oper} {n : Nat} {Base : Act → Prop} (h : plainB l n = true) (hB : ∀ a, Base a → a.tmps.size = n) : Plain l.toArray Base := by
  have key : ∀ (i : Nat) (o : Oper), l[i]? = some o → (∀ e ∈ o.after, e.on < i) ∧ ∃ d, o.dst = some d ∧ d < n ∧ ∀ (j : Nat) (o' : Oper), l[j]? = some o' → j ≠ i → ∃ d', o'.dst = some d' ∧ d ≠ d' := by
    intro i o ho
    have hi : i < l.length := (List.getElem?_eq_some_iff.1 ho).1
    have h1 := List.all_eq_true.1 h i (List.mem_range.2 hi)
    simp only [ho, Bool.and_eq_true] at h1
    refine ⟨fun e he => ?_, ?_⟩
    · have h2 := (Array.all_eq_true_iff_forall_mem.1 h1.1) e he
      simpa using h2
    · cases hd : o.dst with
      | none => rw [hd] at h1; simp at h1
      | some d =>
        rw [hd] at h1
        simp only [Bool.and_eq_true, decide_eq_true_eq] at h1
        refine ⟨d, rfl, h1.2.1, fun j o' ho' hne => ?_⟩
        have hj : j < l.length := (List.getElem?_eq_some_iff.1 ho').1
        have h3 := List.all_eq_true.1 h1.2.2 j (List.mem_range.2 hj)
        simp only [ho', Option.bind_some] at h3
        cases hd' : o'.dst with
        | none => rw [hd'] at h3; simp at h3; exact absurd h3 hne
        | some d' =>
          rw [hd'] at h3
          simp at h3
          exact ⟨d', rfl, h3.resolve_left hne⟩
  refine ⟨fun i o ho => (key i o (by simpa using ho)).1, fun i o ho => ?_⟩
  obtain ⟨_, d, hd, hn, hj⟩ := key i o (by simpa using ho)
  exact ⟨d, hd, fun a ha => by rw [hB a ha]; exact hn, fun j o' ho' hne => hj j o' (by simpa using ho') hne⟩

/-- a drawn region whose operations are written out and unguarded, by facts -/
theorem wp_region_list {id : Nat} {l : List Oper} {a : Act} {w : World} (n : Nat) (Base : Act → Prop) (C : World → Prop) (T : World → World → Prop) (R : Nat → Value → World → Prop) (hm : P.follows .mixedOrders = true)
    (hpl : plainB l n = true) (hsize : ∀ a, Base a → a.tmps.size = n) (hmono : ∀ i v w w', R i v w → T w w' → R i v w')
    (hbase : AllFrom (fun _ o => ∀ a v, Base a → Base (a.put o.dst v)) 0 l) (hC : C { w with drawn := w.drawn + 1 }) (hB : Base a)
    (hops : AllFrom (fun i o => o.guard = none ∧ ∀ a w, C w → Base a → (∀ e ∈ o.after, Region.binds .any e = true → R e.on (slotOf l.toArray e.on a) w) →
      o.wp P a w (fun a' w' => ∃ v, a' = a.put o.dst v ∧ C w' ∧ T w w' ∧ R i v w') Q) 0 l)
    (hfin : ∀ a w, C w → Base a → (∀ i, i < l.length → R i (slotOf l.toArray i a) w) → Q .normal a w) : (Code.region id l.toArray true).wp P Q a w :=
  wp_region_facts hm (plain_of hpl hsize) hmono hbase.all hC hB
    (fun i o ho a w h1 h2 h3 => wpOp_of ho (hops.all i o ho).1 ((hops.all i o ho).2 a w h1 h2 h3))
    (fun a w h1 h2 h3 => hfin a w h1 h2 fun i hi => h3 i (by simpa using hi))

end
end Go.Proofs.YtklbmlnghindjaaDoor
