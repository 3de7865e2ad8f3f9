/- Texts of one claim, merged: Inv, TagR2, TagR3, Inv2, Blk, Reg, TagR4, TagR5, HamR1, HamR2. -/
import Derived.Orders
import Derived.Test.YtlacmfacigfioaaDoorM2
import Derived.Test.YtlacmfacigfioaaDoorM1
import Derived.Deep.WholeRow
import Derived.Laws.StructEq
import Derived.Deep.OwnRows

/- A region that draws its order, by a fact of each operation's value that stays true whatever comes after it: no order is looked at. -/
namespace Go.Proofs.YtlacmfacigfioaaDoor

section
variable {P : Program} {ops : Array Oper} {Q : Exit → Act → World → Prop} {md : Region.Mode}

/-- what operation number i has left in its temporary -/
def slotOf (ops : Array Oper) (i : Nat) (a : Act) : Value := match (ops[i]?).bind (·.dst) with
  | some d => a.tmps.getD d undef
  | none => undef
/-- how many are still to come -/
def still (n : Nat) (listed : Array Bool) : Nat := ((List.range n).filter fun i => !listed.getD i true).length

theorem still_zero {n : Nat} {listed : Array Bool} (h : still n listed = 0) : ∀ i, i < n → listed.getD i true = true := by
  intro i hi
  have h2 : (List.range n).filter (fun i => !listed.getD i true) = [] := List.eq_nil_of_length_eq_zero h
  have h3 := List.filter_eq_nil_iff.1 h2 i (List.mem_range.2 hi)
  simpa using h3
theorem filter_less {α : Type} (l : List α) (p q : α → Bool) (hpq : ∀ x, x ∈ l → q x = true → p x = true) (x : α) (hx : x ∈ l) (hp : p x = true) (hq : q x = false) : (l.filter q).length < (l.filter p).length := by
  induction l with
  | nil => cases hx
  | cons y l ih =>
    have hle : (l.filter q).length ≤ (l.filter p).length := by
      clear ih hx
      induction l with
      | nil => exact Nat.le_refl _
      | cons z l ih2 =>
        have hz := hpq z (by simp)
        have ih3 := ih2 (fun x hx => hpq x (by simp at hx ⊢; rcases hx with h | h <;> simp [h]))
        cases hq' : q z with
        | true => simp [hq', hz hq']; exact ih3
        | false => cases hp' : p z <;> simp [hq', hp'] <;> omega
    rcases List.mem_cons.1 hx with rfl | hx
    · simp [hp, hq]; omega
    · have ih4 := ih (fun z hz => hpq z (List.mem_cons_of_mem _ hz)) hx
      cases hq' : q y with
      | true => simp [hq', hpq y (by simp) hq']; exact ih4
      | false => cases hp' : p y <;> simp [hq', hp'] <;> omega
theorem still_less {n i : Nat} {listed : Array Bool} (hi : i < n) (h : listed.getD i true = false) : still n (listed.setIfInBounds i true) < still n listed := by
  unfold still
  refine filter_less _ _ _ ?_ i (List.mem_range.2 hi) (by simp [h]) ?_
  · intro x _ hx
    by_cases e : i = x
    · subst e
      have hs : i < listed.size := by
        rcases Nat.lt_or_ge i listed.size with h' | h'
        · exact h'
        · simp [Array.getD, Nat.not_lt.2 h'] at h
      simp [Array.getD, hs] at hx
    · simp [getD_set_ne true e] at hx ⊢; exact hx
  · have hs : i < listed.size := by
      rcases Nat.lt_or_ge i listed.size with h' | h'
      · exact h'
      · simp [Array.getD, Nat.not_lt.2 h'] at h
    simp [Array.getD, hs]


theorem slotOf_same {i : Nat} {o : Oper} {d : Tmp} {a : Act} {v : Value} (ho : ops[i]? = some o) (hd : o.dst = some d) (hs : d < a.tmps.size) : slotOf ops i (a.put o.dst v) = v := by
  unfold slotOf
  simp [ho, hd, Act.put, Array.getD, hs]
theorem slotOf_other {i j : Nat} {o o' : Oper} {d d' : Tmp} {a : Act} {v : Value} (_ho : ops[i]? = some o) (hd : o.dst = some d) (ho' : ops[j]? = some o') (hd' : o'.dst = some d') (hne : d ≠ d') : slotOf ops j (a.put o.dst v) = slotOf ops j a := by
  unfold slotOf
  simp only [ho', hd', Option.bind_some, hd, Act.put]
  simp [Array.getD_eq_getD_getElem?, Array.getElem?_setIfInBounds_ne hne]

/-- every operation waits for earlier ones alone, and has a temporary of its own -/
structure Plain (ops : Array Oper) (Base : Act → Prop) : Prop where
  before : ∀ (i : Nat) (o : Oper), ops[i]? = some o → ∀ e ∈ o.after, e.on < i
  own : ∀ (i : Nat) (o : Oper), ops[i]? = some o → ∃ d, o.dst = some d ∧ (∀ a, Base a → d < a.tmps.size) ∧ ∀ (j : Nat) (o' : Oper), ops[j]? = some o' → j ≠ i → ∃ d', o'.dst = some d' ∧ d ≠ d'

/-- WHATEVER ORDER IS PICKED: each operation, in whatever world of the class and whatever frame in which the facts of those that it waits for hold, leaves a value of which its own fact holds; facts stay true as the world goes on. -/
theorem wpAny_facts {Base : Act → Prop} {C : World → Prop} {T : World → World → Prop} {R : Nat → Value → World → Prop} (hpl : Plain ops Base)
    (hmono : ∀ i v w w', R i v w → T w w' → R i v w') (hbase : ∀ (i : Nat) (o : Oper), ops[i]? = some o → ∀ a v, Base a → Base (a.put o.dst v))
    (hops : ∀ (i : Nat) (o : Oper), ops[i]? = some o → ∀ a w, C w → Base a → (∀ e ∈ o.after, Region.binds md e = true → R e.on (slotOf ops e.on a) w) →
      wpOp P ops Q i (fun a' w' => ∃ v, a' = a.put o.dst v ∧ C w' ∧ T w w' ∧ R i v w') a w)
    (hfin : ∀ a w, C w → Base a → (∀ i, i < ops.size → R i (slotOf ops i a) w) → Q .normal a w) :
    ∀ (fuel : Nat) (listed : Array Bool) (a : Act) (w : World), still ops.size listed ≤ fuel → listed.size = ops.size → C w → Base a →
      (∀ i, i < ops.size → listed.getD i true = true → R i (slotOf ops i a) w) → wpAny P md ops Q fuel listed a w := by
  have all : ∀ (listed : Array Bool), listed.size = ops.size → Region.ready md ops listed = [] → ∀ i, i < ops.size → listed.getD i true = true := by
    intro listed hsz hr i
    induction i using Nat.strongRecOn with
    | ind i ih =>
      intro hi
      cases hl : listed.getD i true with
      | true => rfl
      | false =>
        exfalso
        have hm : i ∈ Region.ready md ops listed := by
          rw [mem_ready]
          refine ⟨hl, ops[i], by simp [hi], fun e he _ => ?_⟩
          have hlt := hpl.before i ops[i] (by simp [hi]) e he
          have h2 := ih e.on hlt (by omega)
          have h3 : e.on < listed.size := by omega
          simp [Array.getD, h3] at h2 ⊢
          exact h2
        rw [hr] at hm; cases hm
  intro fuel
  induction fuel with
  | zero =>
    intro listed a w hst hsz hC hB hR
    have hall := still_zero (Nat.le_zero.1 hst)
    have hr : Region.ready md ops listed = [] := by
      cases h : Region.ready md ops listed with
      | nil => rfl
      | cons i l =>
        have hm : i ∈ Region.ready md ops listed := by rw [h]; exact List.mem_cons_self
        obtain ⟨h1, o, ho, _⟩ := mem_ready.1 hm
        have hi : i < ops.size := (Array.getElem?_eq_some_iff.1 ho).1
        rw [hall i hi] at h1; cases h1
    exact ⟨hr, hfin a w hC hB fun i hi => hR i hi (hall i hi)⟩
  | succ fuel ih =>
    intro listed a w hst hsz hC hB hR
    refine ⟨fun hr => hfin a w hC hB fun i hi => hR i hi (all listed hsz hr i hi), fun i hi => ?_⟩
    obtain ⟨h1, o, ho, hdeps⟩ := mem_ready.1 hi
    have hin : i < ops.size := (Array.getElem?_eq_some_iff.1 ho).1
    refine wpOp_mono ?_ (hops i o ho a w hC hB fun e he hb => ?_)
    · rintro a' w' ⟨v, rfl, hC', hT, hRv⟩
      obtain ⟨d, hd, hds, hdo⟩ := hpl.own i o ho
      have hless := still_less hin h1
      refine ih _ _ _ (by omega) (by simp [hsz]) hC' (hbase i o ho a v hB) fun j hj hlj => ?_
      by_cases e : j = i
      · subst e
        rw [slotOf_same ho hd (hds a hB)]; exact hRv
      · obtain ⟨d', hd', hne⟩ := hdo j ops[j] (by simp [hj]) e
        rw [slotOf_other ho hd (by simp [hj]) hd' hne]
        rw [getD_set_ne true (Ne.symm e)] at hlj
        exact hmono j _ _ _ (hR j hj hlj) hT
    · have hlt := hpl.before i o ho e he
      have h2 := hdeps e he hb
      refine hR e.on (by omega) ?_
      have h3 : e.on < listed.size := by omega
      simp [Array.getD, h3] at h2 ⊢
      exact h2

/-- the same, of a region -/
theorem wp_region_facts {id : Nat} {a : Act} {w : World} {Base : Act → Prop} {C : World → Prop} {T : World → World → Prop} {R : Nat → Value → World → Prop} (hm : P.follows .mixedOrders = true) (hpl : Plain ops Base)
    (hmono : ∀ i v w w', R i v w → T w w' → R i v w') (hbase : ∀ (i : Nat) (o : Oper), ops[i]? = some o → ∀ a v, Base a → Base (a.put o.dst v))
    (hC : C { w with drawn := w.drawn + 1 }) (hB : Base a)
    (hops : ∀ (i : Nat) (o : Oper), ops[i]? = some o → ∀ a w, C w → Base a → (∀ e ∈ o.after, Region.binds .any e = true → R e.on (slotOf ops e.on a) w) →
      wpOp P ops Q i (fun a' w' => ∃ v, a' = a.put o.dst v ∧ C w' ∧ T w w' ∧ R i v w') a w)
    (hfin : ∀ a w, C w → Base a → (∀ i, i < ops.size → R i (slotOf ops i a) w) → Q .normal a w) : (Code.region id ops true).wp P Q a w := by
  refine wp_region_any hm (wpAny_facts hpl hmono hbase hops hfin _ _ _ _ ?_ (by simp) hC hB ?_)
  · unfold still
    exact Nat.le_trans (List.length_filter_le _ _) (by simp)
  · intro i hi h
    simp [Array.getD, hi] at h

theorem wpOp_of {i : Nat} {o : Oper} {a : Act} {w : World} {K : Act → World → Prop} (ho : ops[i]? = some o) (hg : o.guard = none) (h : o.wp P a w K Q) : wpOp P ops Q i K a w := by
  unfold wpOp
  simp only [ho, Region.wanted, hg, if_true]
  exact Or.inl h
/-- a fact of each operation, one by one -/
def AllFrom (X : Nat → Oper → Prop) : Nat → List Oper → Prop
  | _, [] => True
  | k, o :: l => X k o ∧ AllFrom X (k + 1) l
theorem AllFrom.at {X : Nat → Oper → Prop} : ∀ {l : List Oper} {k : Nat}, AllFrom X k l → ∀ j o, l[j]? = some o → X (k + j) o
  | [], _, _, j, o, h => by simp at h
  | p :: l, k, h, 0, o, ho => by simp at ho; subst ho; exact h.1
  | p :: l, k, h, j + 1, o, ho => by
    have := AllFrom.at h.2 j o (by simpa using ho)
    rwa [show k + 1 + j = k + (j + 1) by omega] at this
theorem AllFrom.all {X : Nat → Oper → Prop} {l : List Oper} (h : AllFrom X 0 l) : ∀ (i : Nat) (o : Oper), l.toArray[i]? = some o → X i o := fun i o ho => by
  have := AllFrom.at h i o (by simpa using ho)
  rwa [Nat.zero_add] at this
/-- the temporaries of a region's operations -/
def dsts (l : List Oper) : List Tmp := l.filterMap (·.dst)
/-- Plain, as a Bool -/
def plainB (l : List Oper) (n : Nat) : Bool :=
  (List.range l.length).all fun i => match l[i]? with
    | none => true
    | some o => (o.after.all fun e => decide (e.on < i)) && (match o.dst with
      | none => false
      | some d => decide (d < n) && (List.range l.length).all fun j => j == i || (match (l[j]?).bind (·.dst) with | some d' => d != d' | none => false))
theorem plain_of {l : List Oper} {n : Nat} {Base : Act → Prop} (h : plainB l n = true) (hB : ∀ a, Base a → a.tmps.size = n) : Plain l.toArray Base := by
  have key : ∀ (i : Nat) (o : Oper), l[i]? = some o → (∀ e ∈ o.after, e.on < i) ∧ ∃ d, o.dst = some d ∧ d < n ∧ ∀ (j : Nat) (o' : Oper), l[j]? = some o' → j ≠ i → ∃ d', o'.dst = some d' ∧ d ≠ d' := by
    intro i o ho
    have hi : i < l.length := (List.getElem?_eq_some_iff.1 ho).1
    have h1 := List.all_eq_true.1 h i (List.mem_range.2 hi)
    simp only [ho, Bool.and_eq_true] at h1
    refine ⟨fun e he => ?_, ?_⟩
    · have h2 := (Array.all_eq_true_iff_forall_mem.1 h1.1) e he
      simpa using h2
    · cases hd : o.dst with
      | none => rw [hd] at h1; simp at h1
      | some d =>
        rw [hd] at h1
        simp only [Bool.and_eq_true, decide_eq_true_eq] at h1
        refine ⟨d, rfl, h1.2.1, fun j o' ho' hne => ?_⟩
        have hj : j < l.length := (List.getElem?_eq_some_iff.1 ho').1
        have h3 := List.all_eq_true.1 h1.2.2 j (List.mem_range.2 hj)
        simp only [ho', Option.bind_some] at h3
        cases hd' : o'.dst with
        | none => rw [hd'] at h3; simp at h3; exact absurd h3 hne
        | some d' =>
          rw [hd'] at h3
          simp at h3
          exact ⟨d', rfl, h3.resolve_left hne⟩
  refine ⟨fun i o ho => (key i o (by simpa using ho)).1, fun i o ho => ?_⟩
  obtain ⟨_, d, hd, hn, hj⟩ := key i o (by simpa using ho)
  exact ⟨d, hd, fun a ha => by rw [hB a ha]; exact hn, fun j o' ho' hne => hj j o' (by simpa using ho') hne⟩

/-- a drawn region whose operations are written out and unguarded, by facts -/
theorem wp_region_list {id : Nat} {l : List Oper} {a : Act} {w : World} (n : Nat) (Base : Act → Prop) (C : World → Prop) (T : World → World → Prop) (R : Nat → Value → World → Prop) (hm : P.follows .mixedOrders = true)
    (hpl : plainB l n = true) (hsize : ∀ a, Base a → a.tmps.size = n) (hmono : ∀ i v w w', R i v w → T w w' → R i v w')
    (hbase : AllFrom (fun _ o => ∀ a v, Base a → Base (a.put o.dst v)) 0 l) (hC : C { w with drawn := w.drawn + 1 }) (hB : Base a)
    (hops : AllFrom (fun i o => o.guard = none ∧ ∀ a w, C w → Base a → (∀ e ∈ o.after, Region.binds .any e = true → R e.on (slotOf l.toArray e.on a) w) →
      o.wp P a w (fun a' w' => ∃ v, a' = a.put o.dst v ∧ C w' ∧ T w w' ∧ R i v w') Q) 0 l)
    (hfin : ∀ a w, C w → Base a → (∀ i, i < l.length → R i (slotOf l.toArray i a) w) → Q .normal a w) : (Code.region id l.toArray true).wp P Q a w :=
  wp_region_facts hm (plain_of hpl hsize) hmono hbase.all hC hB
    (fun i o ho a w h1 h2 h3 => wpOp_of ho (hops.all i o ho).1 ((hops.all i o ho).2 a w h1 h2 h3))
    (fun a w h1 h2 h3 => hfin a w h1 h2 fun i hi => h3 i (by simpa using hi))

end
end Go.Proofs.YtlacmfacigfioaaDoor

/- The reference of layer 4, walked: Encode of a tag that may be. -/
namespace Go.Proofs.YtlacmfacigfioaaDoor
open Go.RowKit

theorem conv_cells (g : Nat) (c d : Int) (W : World) (h0 : W.cell? ⟨g, 0, none⟩ = some (.int .u8 c)) (h1 : W.cell? ⟨g, 1, none⟩ = some (.int .u8 d)) :
    Sem.run Tryd.prog (convert 45 9 (.slice (some ⟨g, 0, none⟩) 2 2)) W = .ok (.string (strOfNums [c, d])) W := by
  refine run_convert_bytes_arg (P := Tryd.prog) _ 45 5 Tryd.underlying45 Tryd.underlying5 g 0 2 2 [c, d] rfl ?_ 9 Tryd.underlying9
  intro i hi
  rw [Nat.zero_add]
  rcases i with _ | _ | i
  · exact h0
  · exact h1
  · omega
/-- what each operation of Encode's return leaves -/
def RE (k l q e : Int) (B : Nat) : Nat → Value → World → Prop
  | 0, v, _ => v = .pointer (some ⟨B, 0, none⟩)
  | 1, v, _ => v = .int .i64 k
  | 2, v, _ => v = .int .u8 k
  | 3, v, w => ∃ g, v = .slice (some ⟨g, 0, none⟩) 2 2 ∧ w.cell? ⟨g, 0, none⟩ = some (.int .u8 27) ∧ w.cell? ⟨g, 1, none⟩ = some (.int .u8 k)
  | 4, v, _ => v = .string (strOfNums [27, k])
  | 5, v, _ => v = .pointer (some ⟨B, 1, none⟩)
  | 6, v, _ => v = .int .i64 l
  | 7, v, _ => v = .string (leS l 2)
  | 8, v, _ => v = .string (strOfNums [27, k] ++ leS l 2)
  | 9, v, _ => v = .pointer (some ⟨B, 2, none⟩)
  | 10, v, _ => v = .int .i64 q
  | 11, v, _ => v = .string (leS q 6)
  | 12, v, _ => v = .string ((strOfNums [27, k] ++ leS l 2) ++ leS q 6)
  | 13, v, _ => v = .pointer (some ⟨B, 3, none⟩)
  | 14, v, _ => v = .int .i64 e
  | 15, v, _ => v = .string (leS e 4)
  | 16, v, _ => v = .string (((strOfNums [27, k] ++ leS l 2) ++ leS q 6) ++ leS e 4)
  | 17, v, w => ∃ g, v = .slice (some ⟨g, 0, none⟩) 2 2 ∧ w.cell? ⟨g, 0, none⟩ = some (.int .u8 0) ∧ w.cell? ⟨g, 1, none⟩ = some (.int .u8 0)
  | 18, v, _ => v = .string (strOfNums [0, 0])
  | 19, v, _ => v = .string (tagS k l q e)
  | 20, v, _ => v = .string (tagS k l q e)
  | _, v, _ => v = .int .i64 0
def TB (w w' : World) : Prop := Below w.heap.size w w'
theorem RE.mono {k l q e : Int} {B : Nat} : ∀ (i : Nat) (v : Value) (w w' : World), RE k l q e B i v w → TB w w' → RE k l q e B i v w' := by
  intro i v w w' h hb
  have c3 : ∀ c d : Int, (∃ g, v = .slice (some ⟨g, 0, none⟩) 2 2 ∧ w.cell? ⟨g, 0, none⟩ = some (.int .u8 c) ∧ w.cell? ⟨g, 1, none⟩ = some (.int .u8 d)) → ∃ g, v = .slice (some ⟨g, 0, none⟩) 2 2 ∧ w'.cell? ⟨g, 0, none⟩ = some (.int .u8 c) ∧ w'.cell? ⟨g, 1, none⟩ = some (.int .u8 d) := by
    rintro c d ⟨g, h1, h2, h3⟩
    exact ⟨g, h1, (Below.cell (p := ⟨g, 0, none⟩) hb (cell_lt h2)).trans h2, (Below.cell (p := ⟨g, 1, none⟩) hb (cell_lt h3)).trans h3⟩
  unfold RE at *
  split at h <;> first | exact c3 _ _ h | exact h
/-- the frame, as far as the return reads it -/
def BaseE (B : Nat) (a : Act) : Prop := a.tmps.size = 27 ∧ a.defers = [] ∧ a.tmps.getD 1 undef = .pointer (some ⟨B, 0, none⟩)
theorem BaseE.put {B : Nat} {a : Act} {d : Tmp} {v : Value} (h : BaseE B a) (hd : d ≠ 1) : BaseE B (a.put (some d) v) :=
  ⟨by simp [Act.put, h.1], h.2.1, by rw [← h.2.2]; simp [Act.put, Array.getD_eq_getD_getElem?, Array.getElem?_setIfInBounds_ne hd]⟩

set_option maxHeartbeats 1000000 in
set_option maxRecDepth 100000 in
theorem rtag_enc_yes (k l q e : Int) (w : World) (hm : MayT k l q e) : Calls Tryd.prog 30 #[.agg #[.int .i64 k, .int .i64 l, .int .i64 q, .int .i64 e]] w fun r w' => r = .returned (.tuple #[.string (tagS k l q e), .int .i64 0]) ∧ Below w.heap.size w w' := by
  have HB : Hid (mayB k l q e = true) := (mayB_iff k l q e).2 hm
  obtain ⟨h1, h2, h3, h4, h5, h6, h7, h8⟩ := hm
  have hwk : IntKind.u8.wrap k = k := by rw [IntKind.wrap_u8]; omega
  have z0 : (strOfNums [27, k]).size = 2 := rfl
  have z1 : (leS l 2).size = 2 := leS_size _ _
  have z2 : (leS q 6).size = 6 := leS_size _ _
  have z3 : (leS e 4).size = 4 := leS_size _ _
  have z4 : (strOfNums [0, 0]).size = 2 := rfl
  have b2 : l < p2 (8 * 2) := by rw [show p2 (8 * 2) = 65536 by decide]; omega
  have b6 : q < p2 (8 * 6) := by rw [show p2 (8 * 6) = 281474976710656 by decide]; omega
  have b4 : e < p2 (8 * 4) := by rw [show p2 (8 * 4) = 4294967296 by decide]; omega
  have HN := Lib.hid (And.intro b2 (And.intro b6 b4))
  clear b2 b6 b4
  have HC := Lib.hid (tag_cat k l q e)
  have hK := KT.first k l q e w 23
  go_enter Tryd.func30, Tryd.ntmps30
  go_wp2_with fail
  refine (rtag_may_any k l q e _).mono ?_
  rintro r w1 ⟨rfl, hb1⟩
  have hK1 := hK.call hb1
  rw [HB.out]
  clear hK hb1
  go_wp2_with fail
  refine wp_region_list 27 (BaseE w.heap.size) (KT k l q e w) TB (RE k l q e w.heap.size) rfl (by kernel_rfl) (fun a h => h.1) RE.mono ?base hK1.drew ⟨rfl, rfl, rfl⟩ ?steps ?fin
  case base =>
    refine ⟨?_, ?_, ?_, ?_, ?_, ?_, ?_, ?_, ?_, ?_, ?_, ?_, ?_, ?_, ?_, ?_, ?_, ?_, ?_, ?_, ?_, ?_, trivial⟩ <;> exact fun a v h => h.put (by decide)
  case steps =>
    refine ⟨?_, ?_, ?_, ?_, ?_, ?_, ?_, ?_, ?_, ?_, ?_, ?_, ?_, ?_, ?_, ?_, ?_, ?_, ?_, ?_, ?_, ?_, trivial⟩
    all_goals
      refine ⟨rfl, ?_⟩
      intro a w' hC hB hR
      have e1 := hB.2.2
      have hK := Lib.hid hC
      obtain ⟨c0, c1, c2, c3, hbl⟩ := hC
      simp [RE, slotOf, Region.binds] at hR
      unfold Oper.wp
      first
        | (obtain ⟨g, hg, d0, d1⟩ := hR; have hcv := conv_cells g _ _ w' d0 d1; go_simp; exact ⟨_, rfl, hK.out, Below.refl _ _, rfl⟩)
        | (go_simp; exact ⟨_, rfl, hK.out, Below.refl _ _, rfl⟩)
        | (go_simp; exact ⟨_, rfl, hK.out, Below.refl _ _, by rw [← HC.out]; rfl⟩)
        | (go_simp; exact ⟨_, rfl, hK.out.alloc _, (Below.refl _ _).alloc (Nat.le_refl _) _, _, rfl, by rw [World.cell?_alloc_new]; rfl, by rw [World.cell?_alloc_new]; rfl⟩)
        | (go_simp; first
            | (go_at_call_of 55 (Value.int .i64 l); refine (rtag_number l 2 _ (by omega) (by omega) (by omega) HN.out.1 (by omega)).mono ?_; rintro r w2 ⟨rfl, hb2⟩; exact ⟨_, rfl, hK.out.call hb2, hb2, rfl⟩)
            | (go_at_call_of 55 (Value.int .i64 q); refine (rtag_number q 6 _ (by omega) (by omega) (by omega) HN.out.2.1 (by omega)).mono ?_; rintro r w2 ⟨rfl, hb2⟩; exact ⟨_, rfl, hK.out.call hb2, hb2, rfl⟩)
            | (go_at_call_of 55 (Value.int .i64 e); refine (rtag_number e 4 _ (by omega) (by omega) (by omega) HN.out.2.2 (by omega)).mono ?_; rintro r w2 ⟨rfl, hb2⟩; exact ⟨_, rfl, hK.out.call hb2, hb2, rfl⟩))
  case fin =>
    intro a w' hC hB hR
    have s2 := hR 20 (by decide)
    have s3 := hR 21 (by decide)
    simp [RE, slotOf] at s2 s3
    have hd := hB.2.1
    have HBl := Lib.hid hC.2.2.2.2
    clear hR hC hB
    go_wp2_with fail
    refine bodyPost_ret (results_tmp2 rfl _ _ _) hd ⟨?_, HBl.out⟩
    simp [Array.getD_eq_getD_getElem?, s2, s3]

end Go.Proofs.YtlacmfacigfioaaDoor

/- The reference of layer 4, walked: Decode of a text that is no tag's bytes by its form. -/
namespace Go.Proofs.YtlacmfacigfioaaDoor
open Go.RowKit

def tagV (k l q e : Int) : Value := .agg #[.int .i64 k, .int .i64 l, .int .i64 q, .int .i64 e]
theorem byteT_get (s : ByteArray) (i : Nat) (h : i < s.size) : ((s[i].toNat : Nat) : Int) = byteT s i := by
  unfold byteT
  have : s.data.toList.getD i 0 = s[i] := by simp [List.getD, h]; rfl
  rw [this]

set_option maxHeartbeats 1000000 in
set_option maxRecDepth 100000 in
theorem rtag_dec_size (s : ByteArray) (w : World) (h : s.size ≠ 16) (hm : s.size ≤ maxLen) :
    Calls Tryd.prog 39 #[.string s] w fun r w' => r = .returned (.tuple #[tagV 0 0 0 0, .int .i64 3]) ∧ Below w.heap.size w w' := by
  have hm2 : (s.size : Int) ≤ 9223372036854775807 := by unfold maxLen at hm; omega
  have h2 : ((s.size : Int) == 16) = false := by simp; omega
  clear hm
  go_enter Tryd.func39, Tryd.ntmps39
  go_wp2_with fail
  simp [bodyPost, results, Tryd.results39, go_sem, tagV]
  exact (Below.refl _ _).alloc (Nat.le_refl _) _

set_option maxHeartbeats 1000000 in
set_option maxRecDepth 100000 in
theorem rtag_dec_form (s : ByteArray) (w : World) (h : s.size = 16) (hf : ¬ FormT s) :
    Calls Tryd.prog 39 #[.string s] w fun r w' => r = .returned (.tuple #[tagV 0 0 0 0, .int .i64 3]) ∧ Below w.heap.size w w' := by
  have hs : (s.size : Int) = 16 := by omega
  have g0 := byteT_get s 0 (by omega); have g14 := byteT_get s 14 (by omega); have g15 := byteT_get s 15 (by omega)
  obtain ⟨b0, hb0⟩ : ∃ b : Nat, s[0].toNat = b := ⟨_, rfl⟩
  obtain ⟨b14, hb14⟩ : ∃ b : Nat, s[14].toNat = b := ⟨_, rfl⟩
  obtain ⟨b15, hb15⟩ : ∃ b : Nat, s[15].toNat = b := ⟨_, rfl⟩
  rw [hb0] at g0; rw [hb14] at g14; rw [hb15] at g15
  have hne : ¬ (b0 = 27 ∧ b14 = 0 ∧ b15 = 0) := fun ⟨x, y, z⟩ => hf ⟨h, by rw [← g0, x]; rfl, by rw [← g14, y]; rfl, by rw [← g15, z]; rfl⟩
  clear hf g0 g14 g15
  go_enter Tryd.func39, Tryd.ntmps39
  go_wp2_with fail
  all_goals first
    | (exfalso; apply hne; constructor <;> omega)
    | (simp [bodyPost, results, Tryd.results39, go_sem, tagV]; exact (Below.refl _ _).alloc (Nat.le_refl _) _)

end Go.Proofs.YtlacmfacigfioaaDoor

/- A region that draws its order, by facts of the frame and the world that each operation leaves, and that stay true whatever comes after it: no order is looked at; operations without a temporary (stores) too. -/
namespace Go.Proofs.YtlacmfacigfioaaDoor

section
variable {P : Program} {ops : Array Oper} {Q : Exit → Act → World → Prop} {md : Region.Mode}

theorem put_slot {a : Act} {d : Option Tmp} {v : Value} {s : Tmp} (h : ∀ x, d = some x → x ≠ s) : (a.put d v).tmps.getD s undef = a.tmps.getD s undef := by
  cases d with
  | none => rfl
  | some x => simp [Act.put, Array.getD_eq_getD_getElem?, Array.getElem?_setIfInBounds_ne (h x rfl)]

theorem wpAny_facts2 {Base : Act → Prop} {C : World → Prop} {T : World → World → Prop} {R : Nat → Act → World → Prop} {S : Nat → List Tmp}
    (hbefore : ∀ (i : Nat) (o : Oper), ops[i]? = some o → ∀ e ∈ o.after, Region.binds md e = true → e.on < i)
    (hslots : ∀ (i j : Nat) (o o' : Oper), ops[i]? = some o → ops[j]? = some o' → j ≠ i → (∀ e ∈ o'.after, Region.binds md e = true → e.on ≠ i) → ∀ d, o.dst = some d → d ∉ S j)
    (hext : ∀ j a a' w w', R j a w → (∀ s ∈ S j, a'.tmps.getD s undef = a.tmps.getD s undef) → T w w' → R j a' w')
    (hbase : ∀ (i : Nat) (o : Oper), ops[i]? = some o → ∀ a v, Base a → Base (a.put o.dst v))
    (hops : ∀ (i : Nat) (o : Oper), ops[i]? = some o → ∀ a w, C w → Base a → (∀ e ∈ o.after, Region.binds md e = true → R e.on a w) →
      wpOp P ops Q i (fun a' w' => ∃ v, a' = a.put o.dst v ∧ C w' ∧ T w w' ∧ R i a' w') a w)
    (hfin : ∀ a w, C w → Base a → (∀ i, i < ops.size → R i a w) → Q .normal a w) :
    ∀ (fuel : Nat) (listed : Array Bool) (a : Act) (w : World), still ops.size listed ≤ fuel → listed.size = ops.size → C w → Base a →
      (∀ i, i < ops.size → listed.getD i true = true → R i a w ∧ ∀ o, ops[i]? = some o → ∀ e ∈ o.after, Region.binds md e = true → listed.getD e.on true = true) → wpAny P md ops Q fuel listed a w := by
  have all : ∀ (listed : Array Bool), listed.size = ops.size → Region.ready md ops listed = [] → ∀ i, i < ops.size → listed.getD i true = true := by
    intro listed hsz hr i
    induction i using Nat.strongRecOn with
    | ind i ih =>
      intro hi
      cases hl : listed.getD i true with
      | true => rfl
      | false =>
        exfalso
        have hm : i ∈ Region.ready md ops listed := by
          rw [mem_ready]
          refine ⟨hl, ops[i], by simp [hi], fun e he hb => ?_⟩
          have hlt := hbefore i ops[i] (by simp [hi]) e he hb
          have h2 := ih e.on hlt (by omega)
          have h3 : e.on < listed.size := by omega
          simp [Array.getD, h3] at h2 ⊢
          exact h2
        rw [hr] at hm; cases hm
  intro fuel
  induction fuel with
  | zero =>
    intro listed a w hst hsz hC hB hR
    have hall := still_zero (Nat.le_zero.1 hst)
    have hr : Region.ready md ops listed = [] := by
      cases h : Region.ready md ops listed with
      | nil => rfl
      | cons i l =>
        have hm : i ∈ Region.ready md ops listed := by rw [h]; exact List.mem_cons_self
        obtain ⟨h1, o, ho, _⟩ := mem_ready.1 hm
        have hi : i < ops.size := (Array.getElem?_eq_some_iff.1 ho).1
        rw [hall i hi] at h1; cases h1
    exact ⟨hr, hfin a w hC hB fun i hi => (hR i hi (hall i hi)).1⟩
  | succ fuel ih =>
    intro listed a w hst hsz hC hB hR
    refine ⟨fun hr => hfin a w hC hB fun i hi => (hR i hi (all listed hsz hr i hi)).1, fun i hi => ?_⟩
    obtain ⟨h1, o, ho, hdeps⟩ := mem_ready.1 hi
    have hin : i < ops.size := (Array.getElem?_eq_some_iff.1 ho).1
    have hdl : ∀ e ∈ o.after, Region.binds md e = true → listed.getD e.on true = true := by
      intro e he hb
      have hlt := hbefore i o ho e he hb
      have h2 := hdeps e he hb
      have h3 : e.on < listed.size := by omega
      simp [Array.getD, h3] at h2 ⊢
      exact h2
    refine wpOp_mono ?_ (hops i o ho a w hC hB fun e he hb => (hR e.on (by have := hbefore i o ho e he hb; omega) (hdl e he hb)).1)
    rintro a' w' ⟨v, rfl, hC', hT, hRv⟩
    have hless := still_less hin h1
    have keep : ∀ k, listed.getD k true = true → (listed.setIfInBounds i true).getD k true = true := by
      intro k hk
      by_cases e : k = i
      · subst e
        have hs : k < listed.size := by omega
        simp [Array.getD, hs]
      · rw [getD_set_ne true (Ne.symm e)]; exact hk
    refine ih _ _ _ (by omega) (by simp [hsz]) hC' (hbase i o ho a v hB) fun j hj hlj => ?_
    by_cases e : j = i
    · subst e
      refine ⟨hRv, fun o' ho' e he hb => keep _ ?_⟩
      obtain rfl : o' = o := Option.some.inj (ho'.symm.trans ho)
      exact hdl e he hb
    · rw [getD_set_ne true (Ne.symm e)] at hlj
      obtain ⟨hRj, hdj⟩ := hR j hj hlj
      refine ⟨hext j a _ w w' hRj (fun s hs => put_slot fun x hx hxs => ?_) hT, fun o' ho' e he hb => keep _ (hdj o' ho' e he hb)⟩
      subst hxs
      refine hslots i j o ops[j] ho (by simp [hj]) e (fun e' he' hb' hne => ?_) x hx hs
      have := hdj ops[j] (by simp [hj]) e' he' hb'
      rw [hne, h1] at this; cases this

/-- the two conditions on the list, as a Bool -/
def planB (l : List Oper) (S : List (List Tmp)) : Bool :=
  (List.range l.length).all fun i => match l[i]? with
    | none => true
    | some o => (o.after.all fun e => !Region.binds .any e || decide (e.on < i)) && (match o.dst with
      | none => true
      | some d => (List.range l.length).all fun j => j == i || (match l[j]? with
        | some o' => (o'.after.any fun e => Region.binds .any e && e.on == i) || !(S.getD j []).contains d
        | none => true))
/-- a drawn region whose operations are written out and unguarded, by facts of frame and world -/
theorem wp_region_list2 {id : Nat} {l : List Oper} {a : Act} {w : World} (S : List (List Tmp)) (Base : Act → Prop) (C : World → Prop) (T : World → World → Prop) (R : Nat → Act → World → Prop) (hm : P.follows .mixedOrders = true)
    (hpl : planB l S = true) (hext : ∀ j a a' w w', R j a w → (∀ s ∈ S.getD j [], a'.tmps.getD s undef = a.tmps.getD s undef) → T w w' → R j a' w')
    (hbase : AllFrom (fun _ o => ∀ a v, Base a → Base (a.put o.dst v)) 0 l) (hC : C { w with drawn := w.drawn + 1 }) (hB : Base a)
    (hops : AllFrom (fun i o => o.guard = none ∧ ∀ a w, C w → Base a → (∀ e ∈ o.after, Region.binds .any e = true → R e.on a w) →
      o.wp P a w (fun a' w' => ∃ v, a' = a.put o.dst v ∧ C w' ∧ T w w' ∧ R i a' w') Q) 0 l)
    (hfin : ∀ a w, C w → Base a → (∀ i, i < l.length → R i a w) → Q .normal a w) : (Code.region id l.toArray true).wp P Q a w := by
  have hp := List.all_eq_true.1 hpl
  refine wp_region_any hm (wpAny_facts2 (S := fun j => S.getD j []) (Base := Base) (C := C) (T := T) (R := R) ?_ ?_ hext hbase.all
    (fun i o ho a w h1 h2 h3 => wpOp_of ho (hops.all i o ho).1 ((hops.all i o ho).2 a w h1 h2 h3))
    (fun a w h1 h2 h3 => hfin a w h1 h2 fun i hi => h3 i (by simpa using hi)) _ _ _ _ ?_ (by simp) hC hB ?_)
  · intro i o ho e he hb
    have ho' : l[i]? = some o := by simpa using ho
    have h1 := hp i (List.mem_range.2 (List.getElem?_eq_some_iff.1 ho').1)
    simp only [ho', Bool.and_eq_true] at h1
    have h2 := (Array.all_eq_true_iff_forall_mem.1 h1.1) e he
    simpa [hb] using h2
  · intro i j o o' ho ho' hne hno d hd
    have hi : l[i]? = some o := by simpa using ho
    have hj : l[j]? = some o' := by simpa using ho'
    have h1 := hp i (List.mem_range.2 (List.getElem?_eq_some_iff.1 hi).1)
    simp only [hi, hd, Bool.and_eq_true] at h1
    have h2 := List.all_eq_true.1 h1.2 j (List.mem_range.2 (List.getElem?_eq_some_iff.1 hj).1)
    simp only [hj, Bool.or_eq_true, beq_iff_eq] at h2
    rcases h2 with h2 | h2 | h2
    · exact absurd h2 hne
    · obtain ⟨k, hk, hb⟩ := Array.any_eq_true.1 h2
      obtain ⟨e, he⟩ : ∃ e, e = o'.after[k] := ⟨_, rfl⟩
      rw [← he] at hb
      have he : e ∈ o'.after := by rw [he]; exact Array.getElem_mem hk
      simp only [Bool.and_eq_true, beq_iff_eq] at hb
      exact absurd hb.2 (hno e he hb.1)
    · intro hm
      simp at h2
      exact h2 hm
  · unfold still
    exact Nat.le_trans (List.length_filter_le _ _) (by simp)
  · intro i hi h
    have hi' : i < l.length := by simpa using hi
    simp [Array.getD] at h
    omega

theorem if_yes {c : Bool} {A B : Prop} (h : c = true) (hA : A) : if c = true then A else B := by rw [if_pos h]; exact hA
theorem if_no {c : Bool} {A B : Prop} (h : c = false) (hB : B) : if c = true then A else B := by rw [h]; exact hB
/-- what an operation leaves: its slot written, the world in the class and gone on, its own fact -/
def Leaves (C : World → Prop) (T : World → World → Prop) (R : Nat → Act → World → Prop) (i : Nat) (o : Oper) (a : Act) (w : World) (a' : Act) (w' : World) : Prop := ∃ v, a' = a.put o.dst v ∧ C w' ∧ T w w' ∧ R i a' w'
/-- .. where operations may be guarded: an operation that is not wanted leaves its slot undefined -/
theorem wp_region_list3 {id : Nat} {l : List Oper} {a : Act} {w : World} (S : List (List Tmp)) (Base : Act → Prop) (C : World → Prop) (T : World → World → Prop) (R : Nat → Act → World → Prop) (hm : P.follows .mixedOrders = true)
    (hpl : planB l S = true) (hext : ∀ j a a' w w', R j a w → (∀ s ∈ S.getD j [], a'.tmps.getD s undef = a.tmps.getD s undef) → T w w' → R j a' w')
    (hbase : AllFrom (fun _ o => ∀ a v, Base a → Base (a.put o.dst v)) 0 l) (hC : C { w with drawn := w.drawn + 1 }) (hB : Base a)
    (hops : AllFrom (fun i o => ∀ a w, C w → Base a → (∀ e ∈ o.after, Region.binds .any e = true → R e.on a w) →
      if Region.wanted o (yielded l.toArray a.tmps) = true then o.wp P a w (Leaves C T R i o a w) Q
      else Leaves C T R i o a w (a.put o.dst undef) w) 0 l)
    (hfin : ∀ a w, C w → Base a → (∀ i, i < l.length → R i a w) → Q .normal a w) : (Code.region id l.toArray true).wp P Q a w := by
  have hp := List.all_eq_true.1 hpl
  refine wp_region_any hm (wpAny_facts2 (S := fun j => S.getD j []) (Base := Base) (C := C) (T := T) (R := R) ?_ ?_ hext hbase.all
    (fun i o ho a w h1 h2 h3 => ?_)
    (fun a w h1 h2 h3 => hfin a w h1 h2 fun i hi => h3 i (by simpa using hi)) _ _ _ _ ?_ (by simp) hC hB ?_)
  · intro i o ho e he hb
    have ho' : l[i]? = some o := by simpa using ho
    have h1 := hp i (List.mem_range.2 (List.getElem?_eq_some_iff.1 ho').1)
    simp only [ho', Bool.and_eq_true] at h1
    have h2 := (Array.all_eq_true_iff_forall_mem.1 h1.1) e he
    simpa [hb] using h2
  · intro i j o o' ho ho' hne hno d hd
    have hi : l[i]? = some o := by simpa using ho
    have hj : l[j]? = some o' := by simpa using ho'
    have h1 := hp i (List.mem_range.2 (List.getElem?_eq_some_iff.1 hi).1)
    simp only [hi, hd, Bool.and_eq_true] at h1
    have h2 := List.all_eq_true.1 h1.2 j (List.mem_range.2 (List.getElem?_eq_some_iff.1 hj).1)
    simp only [hj, Bool.or_eq_true, beq_iff_eq] at h2
    rcases h2 with h2 | h2 | h2
    · exact absurd h2 hne
    · obtain ⟨k, hk, hb⟩ := Array.any_eq_true.1 h2
      obtain ⟨e, he⟩ : ∃ e, e = o'.after[k] := ⟨_, rfl⟩
      rw [← he] at hb
      have he : e ∈ o'.after := by rw [he]; exact Array.getElem_mem hk
      simp only [Bool.and_eq_true, beq_iff_eq] at hb
      exact absurd hb.2 (hno e he hb.1)
    · intro hm
      simp at h2
      exact h2 hm
  · have h4 := hops.all i o ho a w h1 h2 h3
    unfold wpOp
    simp only [ho]
    by_cases hw : Region.wanted o (yielded l.toArray a.tmps) = true
    · rw [if_pos hw] at h4 ⊢
      exact Or.inl h4
    · rw [if_neg hw] at h4 ⊢
      exact h4
  · unfold still
    exact Nat.le_trans (List.length_filter_le _ _) (by simp)
  · intro i hi h
    have hi' : i < l.length := by simpa using hi
    simp [Array.getD] at h
    omega

end
end Go.Proofs.YtlacmfacigfioaaDoor

/- A block of the call's own, whole: what a world holds in it, behind new blocks, calls, stores. -/
namespace Go.Proofs.YtlacmfacigfioaaDoor
open Go.RowKit

/-- block b holds these cells, and may be written -/
def Blk (w : World) (b : Nat) (cs : Array Value) (t : TypeId) : Prop := w.heap[b]? = some (.cells cs t (0, 0))
theorem Blk.lt {w : World} {b : Nat} {cs : Array Value} {t : TypeId} (h : Blk w b cs t) : b < w.heap.size := (Array.getElem?_eq_some_iff.1 h).1
theorem Blk.new (w : World) (cs : Array Value) (t : TypeId) : Blk (w.alloc (.cells cs t)) w.heap.size cs t := heap_alloc_new _ _
theorem Blk.alloc {w : World} {b : Nat} {cs : Array Value} {t : TypeId} (h : Blk w b cs t) (o : Obj) : Blk (w.alloc o) b cs t := by
  have hb := h.lt
  unfold Blk at *
  rw [heap_alloc_old _ _ hb]; exact h
theorem Blk.drew {w : World} {b : Nat} {cs : Array Value} {t : TypeId} (h : Blk w b cs t) : Blk w.drew b cs t := h
theorem Blk.drewN {w : World} {b n : Nat} {cs : Array Value} {t : TypeId} (h : Blk w b cs t) : Blk (w.drewN n) b cs t := h
theorem Blk.below {w w' : World} {b B : Nat} {cs : Array Value} {t : TypeId} (h : Blk w b cs t) (hb : Below B w w') (hB : b < B) : Blk w' b cs t := by
  unfold Blk at *
  rw [hb.block b hB]; exact h
theorem Blk.after {w w' : World} {b : Nat} {cs : Array Value} {t : TypeId} (h : Blk w b cs t) (hb : Below w.heap.size w w') : Blk w' b cs t := h.below hb h.lt
theorem Blk.cell {w : World} {b : Nat} {cs : Array Value} {t : TypeId} (h : Blk w b cs t) (i : Nat) : w.cell? ⟨b, i, none⟩ = cs[i]? := by
  unfold Blk at h; simp [World.cell?, h]
theorem Blk.free {w : World} {b : Nat} {cs : Array Value} {t : TypeId} (h : Blk w b cs t) (i : Nat) : w.frozen? ⟨b, i, none⟩ = false := by
  unfold Blk at h; simp [World.frozen?, h]
theorem Blk.set {w : World} {b : Nat} {cs ds : Array Value} {t : TypeId} (h : Blk w b cs t) (i : Nat) (v : Value) (he : cs.setIfInBounds i v = ds) : Blk (w.setCell ⟨b, i, none⟩ v) b ds t := by
  unfold Blk at *
  rw [heap_setCell_same _ _ _ _ _ _ h, he]
theorem Blk.set_other {w : World} {b c : Nat} {cs : Array Value} {t : TypeId} (h : Blk w b cs t) (hne : c ≠ b) (i : Nat) (v : Value) : Blk (w.setCell ⟨c, i, none⟩ v) b cs t := by
  unfold Blk at *
  rw [Below.heap_setCell _ _ _ _ (Ne.symm hne)]; exact h
theorem Blk.put {w : World} {b : Nat} {cs : Array Value} {t : TypeId} (h : Blk w b cs t) (ds : Array Value) : Blk (w.setRow b ds) b ds t := by
  unfold Blk at *
  exact setRow_heap w b cs ds _ _ h
theorem Blk.put_other {w : World} {b c : Nat} {cs : Array Value} {t : TypeId} (h : Blk w b cs t) (hne : c ≠ b) (ds : Array Value) : Blk (w.setRow c ds) b cs t := by
  unfold Blk at *
  simp only [World.setRow, Array.getElem?_modify]
  rw [if_neg hne]; exact h
theorem below_put {B g : Nat} {a w : World} (hB : B ≤ g) (cs : Array Value) (h : Below B a w) : Below B a (w.setRow g cs) := by
  have hk : ∀ k, k < B → (w.setRow g cs).heap[k]? = w.heap[k]? := by
    intro k hk
    simp only [World.setRow, Array.getElem?_modify]
    rw [if_neg (by omega)]
  obtain ⟨h1, h2, h3, h4, h5⟩ := h
  exact ⟨h1, h2, h3, by rw [size_setRow]; exact h4, fun k hk2 => by rw [hk k hk2]; exact h5 k hk2⟩

/-- a whole row out of a variable, at an operation that is guarded -/
theorem wpList_load_row_if {P : Program} {ops : Array Oper} {rest : List Oper} {o : Oper} {a : Act} {w : World} {Q : Exit → Act → World → Prop} (hw : Region.wanted o (yielded ops a.tmps) = true) (ty : TypeId) (x : Operand) (ho : o.op = .load ty x)
    (g : Nat) (hx : a.eval x = .pointer (some ⟨g, 0, none⟩)) (t : TypeId) (cs : Array Value) (fr : Nat × Nat) (d : TypeDesc) (hg : w.heap[g]? = some (.cells cs t fr))
    (hu : P.underlying ty = some d) (hd : (match d with | .struct _ | .array _ _ => true | _ => false) = true) (hi : (P.info? ty).map (·.size) = some cs.size)
    (h : wpList P ops Q rest (a.put o.dst (.agg cs)) w) : wpList P ops Q (o :: rest) a w := by
  unfold wpList
  rw [if_pos hw]
  exact Or.inl (wp_load_row ty x ho g hx t cs fr d hg hu hd hi h)

/-- what a function of two results gives, the first in a block of its own -/
theorem results_cell_tmp {P : Program} {fn : Func} {p q : Tmp} {ty : TypeId} (h : fn.results = #[.cell p ty, .tmp q]) (tmps : Array Value) (w : World) (g : Nat) (t : TypeId) (cs : Array Value) (d : TypeDesc)
    (hp : tmps.getD p undef = .pointer (some ⟨g, 0, none⟩)) (hg : Blk w g cs t)
    (hu : P.underlying ty = some d) (hd : (match d with | .struct _ | .array _ _ => true | _ => false) = true) (hi : (P.info? ty).map (·.size) = some cs.size) :
    (results fn tmps).run P w = .ok (.tuple #[.agg cs, tmps.getD q undef]) w := by
  have hp' : tmps[p]?.getD undef = .pointer (some ⟨g, 0, none⟩) := by simpa using hp
  simp [results, h, hp', asAddr, run_loadVar_row w g t ty cs (0, 0) d hg hu hd hi]

end Go.Proofs.YtlacmfacigfioaaDoor

/- Facts of a drawn region's operations: a value in a slot each, or a fact of one's own. -/
namespace Go.Proofs.YtlacmfacigfioaaDoor
open Go.RowKit

/-- operation j has left this value in this slot; where the list says nothing: Sp -/
def RV (vs : List (Option (Tmp × Value))) (Sp : Nat → Act → World → Prop) (j : Nat) (a : Act) (w : World) : Prop :=
  match vs[j]? with
  | some (some (d, v)) => a.tmps.getD d undef = v
  | some none => Sp j a w
  | none => True
/-- the slots that a fact looks at -/
def SV (vs : List (Option (Tmp × Value))) (sp : List Tmp) : List (List Tmp) := vs.map fun o => match o with
  | some (d, _) => [d]
  | none => sp
theorem RV.ext {vs : List (Option (Tmp × Value))} {sp : List Tmp} {Sp : Nat → Act → World → Prop} {T : World → World → Prop}
    (hsp : ∀ j a a' w w', Sp j a w → (∀ d ∈ sp, a'.tmps.getD d undef = a.tmps.getD d undef) → T w w' → Sp j a' w') :
    ∀ j a a' w w', RV vs Sp j a w → (∀ s ∈ (SV vs sp).getD j [], a'.tmps.getD s undef = a.tmps.getD s undef) → T w w' → RV vs Sp j a' w' := by
  intro j a a' w w' h hd hT
  unfold RV at *
  rw [List.getD_eq_getElem?_getD] at hd
  cases hj : vs[j]? with
  | none => trivial
  | some o =>
    rw [hj] at h
    cases o with
    | none => exact hsp j a a' w w' h (fun d hm => hd d (by simp [SV, hj]; exact hm)) hT
    | some p => exact (hd p.1 (by simp [SV, hj])).trans h

/-- a world goes on: nothing that was there turns -/
def Goes (w w' : World) : Prop := Below w.heap.size w w'
theorem Goes.refl (w : World) : Goes w w := Below.refl _ _

end Go.Proofs.YtlacmfacigfioaaDoor

/- The reference of layer 4, walked: Decode of a text that has a tag's form. -/
namespace Go.Proofs.YtlacmfacigfioaaDoor
open Go.RowKit

def ta (k l q e : Int) : Array Value := #[.int .i64 k, .int .i64 l, .int .i64 q, .int .i64 e]
theorem ta_one (k l q e : Int) : (ta k l q e).all (·.oneCell') = true := by
  rw [Array.all_eq_true_iff_forall_mem]
  intro v hv
  simp [ta] at hv
  rcases hv with rfl | rfl | rfl | rfl <;> rfl
theorem size_tag : (Tryd.prog.info? 23).map (·.size) = some 4 := by kernel_rfl
/-- what each operation of Decode's tag leaves -/
def vsT (s s2 s6 s4 : ByteArray) (b1 : Nat) (x y z : Int) : List (Option (Tmp × Value)) :=
  [some (24, .string s), some (25, .int .u8 b1), some (26, .int .i64 b1), some (27, .string s), some (28, .string s2), some (29, .int .i64 x), some (30, .string s), some (31, .string s6), some (32, .int .i64 y), some (33, .string s), some (34, .string s4), some (35, .int .i64 z), some (36, .agg (ta b1 x y z)), none, none]
def SpT (B : Nat) (f : Array Value) (j : Nat) (a : Act) (w : World) : Prop := ∃ g cs, B < g ∧ a.tmps.getD 4 undef = .pointer (some ⟨g, 0, none⟩) ∧ Blk w g cs 23 ∧ cs.size = 4 ∧ (j = 14 → cs = f)
/-- a block of a tag stays one, and stays f, once it is f -/
def TT (B : Nat) (f : Array Value) (w w' : World) : Prop := Below (B + 1) w w' ∧ ∀ g cs, B < g → Blk w g cs 23 → cs.size = 4 → ∃ cs', Blk w' g cs' 23 ∧ cs'.size = 4 ∧ (cs = f → cs' = f)
theorem TT.of {B : Nat} {f : Array Value} {w w' : World} (hb : Below w.heap.size w w') (hB : B < w.heap.size) : TT B f w w' :=
  ⟨hb.mono hB, fun _ cs _ h hs => ⟨cs, h.after hb, hs, id⟩⟩
theorem TT.store {B g : Nat} {f cs : Array Value} {w : World} (hg : B < g) (h : Blk w g cs 23) (hf : f.size = 4) : TT B f w (w.setRow g f) :=
  ⟨below_put hg f (Below.refl _ _), fun g' cs' _ h' hs' => by
    by_cases e : g = g'
    · subst e; exact ⟨f, h.put f, hf, fun _ => rfl⟩
    · exact ⟨cs', h'.put_other e f, hs', id⟩⟩
theorem SpT.ext {B : Nat} {f : Array Value} : ∀ j a a' w w', SpT B f j a w → (∀ d ∈ [4], a'.tmps.getD d undef = a.tmps.getD d undef) → TT B f w w' → SpT B f j a' w' := by
  rintro j a a' w w' ⟨g, cs, hg, h1, h2, h3, h4⟩ hd hT
  obtain ⟨cs', h5, h6, h7⟩ := hT.2 g cs hg h2 h3
  exact ⟨g, cs', hg, (hd 4 (by simp)).trans h1, h5, h6, fun h => h7 (h4 h)⟩
/-- the frame while the region TR runs -/
def BaseTR (s : ByteArray) (B : Nat) (a : Act) : Prop := ∃ u1 u3 u4 u5 u6 u7 u8 u9 u10 u11 u12 u13 u14 u15 u16 u17 u18 u19 u20 u21 u22 u23 u24 u25 u26 u27 u28 u29 u30 u31 u32 u33 u34 u35 u36 u37 u38 u39 u40 u41 : Value, a = ⟨#[.string s, u1, .pointer (some ⟨B, 0, none⟩), u3, u4, u5, u6, u7, u8, u9, u10, u11, u12, u13, u14, u15, u16, u17, u18, u19, u20, u21, u22, u23, u24, u25, u26, u27, u28, u29, u30, u31, u32, u33, u34, u35, u36, u37, u38, u39, u40, u41], []⟩
theorem baseTR (s : ByteArray) (B : Nat) : ∀ (a : Act) (v : Value), BaseTR s B a → BaseTR s B (a.put (some 24) v) ∧ BaseTR s B (a.put (some 25) v) ∧ BaseTR s B (a.put (some 26) v) ∧ BaseTR s B (a.put (some 27) v) ∧ BaseTR s B (a.put (some 28) v) ∧ BaseTR s B (a.put (some 29) v) ∧ BaseTR s B (a.put (some 30) v) ∧ BaseTR s B (a.put (some 31) v) ∧ BaseTR s B (a.put (some 32) v) ∧ BaseTR s B (a.put (some 33) v) ∧ BaseTR s B (a.put (some 34) v) ∧ BaseTR s B (a.put (some 35) v) ∧ BaseTR s B (a.put (some 36) v) ∧ BaseTR s B (a.put (some 4) v) := by
  rintro a v ⟨u1, u3, u4, u5, u6, u7, u8, u9, u10, u11, u12, u13, u14, u15, u16, u17, u18, u19, u20, u21, u22, u23, u24, u25, u26, u27, u28, u29, u30, u31, u32, u33, u34, u35, u36, u37, u38, u39, u40, u41, rfl⟩
  exact ⟨⟨u1, u3, u4, u5, u6, u7, u8, u9, u10, u11, u12, u13, u14, u15, u16, u17, u18, u19, u20, u21, u22, u23, v, u25, u26, u27, u28, u29, u30, u31, u32, u33, u34, u35, u36, u37, u38, u39, u40, u41, rfl⟩,
    ⟨u1, u3, u4, u5, u6, u7, u8, u9, u10, u11, u12, u13, u14, u15, u16, u17, u18, u19, u20, u21, u22, u23, u24, v, u26, u27, u28, u29, u30, u31, u32, u33, u34, u35, u36, u37, u38, u39, u40, u41, rfl⟩,
    ⟨u1, u3, u4, u5, u6, u7, u8, u9, u10, u11, u12, u13, u14, u15, u16, u17, u18, u19, u20, u21, u22, u23, u24, u25, v, u27, u28, u29, u30, u31, u32, u33, u34, u35, u36, u37, u38, u39, u40, u41, rfl⟩,
    ⟨u1, u3, u4, u5, u6, u7, u8, u9, u10, u11, u12, u13, u14, u15, u16, u17, u18, u19, u20, u21, u22, u23, u24, u25, u26, v, u28, u29, u30, u31, u32, u33, u34, u35, u36, u37, u38, u39, u40, u41, rfl⟩,
    ⟨u1, u3, u4, u5, u6, u7, u8, u9, u10, u11, u12, u13, u14, u15, u16, u17, u18, u19, u20, u21, u22, u23, u24, u25, u26, u27, v, u29, u30, u31, u32, u33, u34, u35, u36, u37, u38, u39, u40, u41, rfl⟩,
    ⟨u1, u3, u4, u5, u6, u7, u8, u9, u10, u11, u12, u13, u14, u15, u16, u17, u18, u19, u20, u21, u22, u23, u24, u25, u26, u27, u28, v, u30, u31, u32, u33, u34, u35, u36, u37, u38, u39, u40, u41, rfl⟩,
    ⟨u1, u3, u4, u5, u6, u7, u8, u9, u10, u11, u12, u13, u14, u15, u16, u17, u18, u19, u20, u21, u22, u23, u24, u25, u26, u27, u28, u29, v, u31, u32, u33, u34, u35, u36, u37, u38, u39, u40, u41, rfl⟩,
    ⟨u1, u3, u4, u5, u6, u7, u8, u9, u10, u11, u12, u13, u14, u15, u16, u17, u18, u19, u20, u21, u22, u23, u24, u25, u26, u27, u28, u29, u30, v, u32, u33, u34, u35, u36, u37, u38, u39, u40, u41, rfl⟩,
    ⟨u1, u3, u4, u5, u6, u7, u8, u9, u10, u11, u12, u13, u14, u15, u16, u17, u18, u19, u20, u21, u22, u23, u24, u25, u26, u27, u28, u29, u30, u31, v, u33, u34, u35, u36, u37, u38, u39, u40, u41, rfl⟩,
    ⟨u1, u3, u4, u5, u6, u7, u8, u9, u10, u11, u12, u13, u14, u15, u16, u17, u18, u19, u20, u21, u22, u23, u24, u25, u26, u27, u28, u29, u30, u31, u32, v, u34, u35, u36, u37, u38, u39, u40, u41, rfl⟩,
    ⟨u1, u3, u4, u5, u6, u7, u8, u9, u10, u11, u12, u13, u14, u15, u16, u17, u18, u19, u20, u21, u22, u23, u24, u25, u26, u27, u28, u29, u30, u31, u32, u33, v, u35, u36, u37, u38, u39, u40, u41, rfl⟩,
    ⟨u1, u3, u4, u5, u6, u7, u8, u9, u10, u11, u12, u13, u14, u15, u16, u17, u18, u19, u20, u21, u22, u23, u24, u25, u26, u27, u28, u29, u30, u31, u32, u33, u34, v, u36, u37, u38, u39, u40, u41, rfl⟩,
    ⟨u1, u3, u4, u5, u6, u7, u8, u9, u10, u11, u12, u13, u14, u15, u16, u17, u18, u19, u20, u21, u22, u23, u24, u25, u26, u27, u28, u29, u30, u31, u32, u33, u34, u35, v, u37, u38, u39, u40, u41, rfl⟩,
    ⟨u1, u3, v, u5, u6, u7, u8, u9, u10, u11, u12, u13, u14, u15, u16, u17, u18, u19, u20, u21, u22, u23, u24, u25, u26, u27, u28, u29, u30, u31, u32, u33, u34, u35, u36, u37, u38, u39, u40, u41, rfl⟩⟩
/-- the world while the region runs: the result's block, and what is below -/
def CT (w0 w : World) : Prop := Blk w w0.heap.size (ta 0 0 0 0) 23 ∧ Below w0.heap.size w0 w

set_option maxHeartbeats 1000000 in
set_option maxRecDepth 100000 in
theorem rtag_dec_yes (s : ByteArray) (w : World) (hf : FormT s) :
    Calls Tryd.prog 39 #[.string s] w fun r w' => r = .returned (if mayB (byteT s 1) (lT s) (qT s) (eT s) then .tuple #[tagV (byteT s 1) (lT s) (qT s) (eT s), .int .i64 0] else .tuple #[tagV 0 0 0 0, .int .i64 3]) ∧ Below w.heap.size w w' := by
  obtain ⟨h, f0, f14, f15⟩ := hf
  have hs : (s.size : Int) = 16 := by omega
  have g0 := byteT_get s 0 (by omega); have g14 := byteT_get s 14 (by omega); have g15 := byteT_get s 15 (by omega); have g1 := byteT_get s 1 (by omega)
  rw [f0] at g0; rw [f14] at g14; rw [f15] at g15
  have hb0 : s[0].toNat = 27 := by omega
  have hb14 : s[14].toNat = 0 := by omega
  have hb15 : s[15].toNat = 0 := by omega
  obtain ⟨b1, hb1⟩ : ∃ b : Nat, s[1].toNat = b := ⟨_, rfl⟩
  rw [hb1] at g1
  have x2 : (s.extract 2 4).size = 2 := by rw [ByteArray.size_extract]; omega
  have x6 : (s.extract 4 10).size = 6 := by rw [ByteArray.size_extract]; omega
  have x4 : (s.extract 10 14).size = 4 := by rw [ByteArray.size_extract]; omega
  have H2 := Lib.hid x2; have H6 := Lib.hid x6; have H4 := Lib.hid x4
  rw [← g1]
  have hb256 : b1 < 256 := by rw [← hb1]; exact s[1].toNat_lt
  have hw1 : IntKind.i64.wrap (b1 : Int) = (b1 : Int) := by rw [IntKind.wrap_i64]; omega
  obtain ⟨x, hx⟩ : ∃ x, numS (s.extract 2 4) = x := ⟨_, rfl⟩
  obtain ⟨y, hy⟩ : ∃ y, numS (s.extract 4 10) = y := ⟨_, rfl⟩
  obtain ⟨z, hz⟩ : ∃ z, numS (s.extract 10 14) = z := ⟨_, rfl⟩
  rw [show lT s = x from hx, show qT s = y from hy, show eT s = z from hz]
  obtain ⟨m, hm⟩ : ∃ m, mayB (b1 : Int) x y z = m := ⟨_, rfl⟩
  rw [hm]
  have HX := Lib.hid hx; have HY := Lib.hid hy; have HZ := Lib.hid hz; have HM := Lib.hid hm
  clear hx hy hz hm
  clear g0 g14 g15 f0 f14 f15 x2 x6 x4 g1
  go_enter Tryd.func39, Tryd.ntmps39
  go_wp2_with fail
  refine wp_region_list2 (SV (vsT s (s.extract 2 4) (s.extract 4 10) (s.extract 10 14) b1 x y z) [4]) (BaseTR s w.heap.size) (CT w) (TT w.heap.size (ta b1 x y z)) (RV (vsT s (s.extract 2 4) (s.extract 4 10) (s.extract 10 14) b1 x y z) (SpT w.heap.size (ta b1 x y z))) rfl (by kernel_rfl) (RV.ext SpT.ext) ?base ?start ⟨_, _, _, _, _, _, _, _, _, _, _, _, _, _, _, _, _, _, _, _, _, _, _, _, _, _, _, _, _, _, _, _, _, _, _, _, _, _, _, _, rfl⟩ ?steps ?fin
  case base => exact ⟨fun a v h => (baseTR s w.heap.size a v h).1, fun a v h => (baseTR s w.heap.size a v h).2.1, fun a v h => (baseTR s w.heap.size a v h).2.2.1, fun a v h => (baseTR s w.heap.size a v h).2.2.2.1, fun a v h => (baseTR s w.heap.size a v h).2.2.2.2.1, fun a v h => (baseTR s w.heap.size a v h).2.2.2.2.2.1, fun a v h => (baseTR s w.heap.size a v h).2.2.2.2.2.2.1, fun a v h => (baseTR s w.heap.size a v h).2.2.2.2.2.2.2.1, fun a v h => (baseTR s w.heap.size a v h).2.2.2.2.2.2.2.2.1, fun a v h => (baseTR s w.heap.size a v h).2.2.2.2.2.2.2.2.2.1, fun a v h => (baseTR s w.heap.size a v h).2.2.2.2.2.2.2.2.2.2.1, fun a v h => (baseTR s w.heap.size a v h).2.2.2.2.2.2.2.2.2.2.2.1, fun a v h => (baseTR s w.heap.size a v h).2.2.2.2.2.2.2.2.2.2.2.2.1, fun a v h => (baseTR s w.heap.size a v h).2.2.2.2.2.2.2.2.2.2.2.2.2, fun a v h => h, trivial⟩
  case start => exact ⟨(Blk.new w (ta 0 0 0 0) 23).drew, ((Below.refl _ _).alloc (Nat.le_refl _) _).drew⟩
  case steps =>
    refine ⟨?_, ?_, ?_, ?_, ?_, ?_, ?_, ?_, ?_, ?_, ?_, ?_, ?_, ?_, ?_, trivial⟩
    all_goals
      refine ⟨rfl, ?_⟩
      intro a w' hC hB hR
      obtain ⟨u1, u3, u4, u5, u6, u7, u8, u9, u10, u11, u12, u13, u14, u15, u16, u17, u18, u19, u20, u21, u22, u23, u24, u25, u26, u27, u28, u29, u30, u31, u32, u33, u34, u35, u36, u37, u38, u39, u40, u41, rfl⟩ := hB
      have hlt : w.heap.size < w'.heap.size := hC.1.lt
      have HC := Lib.hid hC
      clear hC
    · clear hR
      unfold Oper.wp
      go_simp
      exact ⟨HC.out, TT.of (Below.refl _ _) hlt, rfl⟩
    · have h0 : u24 = .string s := hR ⟨0, .data⟩ (by simp) rfl
      clear hR
      subst h0
      unfold Oper.wp
      go_simp
      exact ⟨HC.out, TT.of (Below.refl _ _) hlt, rfl⟩
    · have h1 : u25 = .int .u8 b1 := hR ⟨1, .data⟩ (by simp) rfl
      clear hR
      subst h1
      unfold Oper.wp
      go_simp
      exact ⟨HC.out, TT.of (Below.refl _ _) hlt, rfl⟩
    · clear hR
      unfold Oper.wp
      go_simp
      exact ⟨HC.out, TT.of (Below.refl _ _) hlt, rfl⟩
    · have h3 : u27 = .string s := hR ⟨3, .data⟩ (by simp) rfl
      clear hR
      subst h3
      unfold Oper.wp
      go_simp
      exact ⟨HC.out, TT.of (Below.refl _ _) hlt, rfl⟩
    · have h4 : u28 = .string (s.extract 2 4) := hR ⟨4, .data⟩ (by simp) rfl
      clear hR
      subst h4
      unfold Oper.wp
      go_simp
      refine (rtag_of (s.extract 2 4) _ (by rw [H2.out]; decide) (by rw [H2.out]; decide)).mono ?_
      rintro r w2 ⟨rfl, rfl⟩
      exact ⟨HC.out, TT.of (Below.refl _ _) hlt, congrArg (Value.int .i64) HX.out⟩
    · clear hR
      unfold Oper.wp
      go_simp
      exact ⟨HC.out, TT.of (Below.refl _ _) hlt, rfl⟩
    · have h6 : u30 = .string s := hR ⟨6, .data⟩ (by simp) rfl
      clear hR
      subst h6
      unfold Oper.wp
      go_simp
      exact ⟨HC.out, TT.of (Below.refl _ _) hlt, rfl⟩
    · have h7 : u31 = .string (s.extract 4 10) := hR ⟨7, .data⟩ (by simp) rfl
      clear hR
      subst h7
      unfold Oper.wp
      go_simp
      refine (rtag_of (s.extract 4 10) _ (by rw [H6.out]; decide) (by rw [H6.out]; decide)).mono ?_
      rintro r w2 ⟨rfl, rfl⟩
      exact ⟨HC.out, TT.of (Below.refl _ _) hlt, congrArg (Value.int .i64) HY.out⟩
    · clear hR
      unfold Oper.wp
      go_simp
      exact ⟨HC.out, TT.of (Below.refl _ _) hlt, rfl⟩
    · have h9 : u33 = .string s := hR ⟨9, .data⟩ (by simp) rfl
      clear hR
      subst h9
      unfold Oper.wp
      go_simp
      exact ⟨HC.out, TT.of (Below.refl _ _) hlt, rfl⟩
    · have h10 : u34 = .string (s.extract 10 14) := hR ⟨10, .data⟩ (by simp) rfl
      clear hR
      subst h10
      unfold Oper.wp
      go_simp
      refine (rtag_of (s.extract 10 14) _ (by rw [H4.out]; decide) (by rw [H4.out]; decide)).mono ?_
      rintro r w2 ⟨rfl, rfl⟩
      exact ⟨HC.out, TT.of (Below.refl _ _) hlt, congrArg (Value.int .i64) HZ.out⟩
    · have h2 : u26 = .int .i64 b1 := hR ⟨2, .data⟩ (by simp) rfl
      have h5 : u29 = .int .i64 x := hR ⟨5, .data⟩ (by simp) rfl
      have h8 : u32 = .int .i64 y := hR ⟨8, .data⟩ (by simp) rfl
      have h11 : u35 = .int .i64 z := hR ⟨11, .data⟩ (by simp) rfl
      clear hR
      subst h2
      subst h5
      subst h8
      subst h11
      unfold Oper.wp
      go_simp
      exact ⟨HC.out, TT.of (Below.refl _ _) hlt, rfl⟩
    · clear hR
      unfold Oper.wp
      go_simp
      exact ⟨⟨HC.out.1.alloc _, HC.out.2.alloc (by omega) _⟩, TT.of ((Below.refl _ _).alloc (Nat.le_refl _) _) hlt, ⟨_, _, hlt, rfl, Blk.new _ _ _, rfl, fun h => by cases h⟩⟩
    · have h12 : u36 = .agg (ta b1 x y z) := hR ⟨12, .data⟩ (by simp) rfl
      obtain ⟨g, cs, hg, hp, hb, hcs, _⟩ := hR ⟨13, .data⟩ (by simp) rfl
      clear hR
      subst h12
      obtain rfl : u4 = .pointer (some ⟨g, 0, none⟩) := hp
      exact wp_store_row 23 (.tmp 4) (.tmp 36) rfl g (ta b1 x y z) rfl rfl 23 cs hb size_tag hcs (ta_one _ _ _ _) ⟨undef, rfl, ⟨HC.out.1.put_other (by omega) _, below_put (by omega) _ HC.out.2⟩, TT.store hg hb rfl, ⟨g, _, hg, rfl, hb.put _, rfl, fun _ => rfl⟩⟩
  case fin =>
    intro a w' hC hB hR
    obtain ⟨g, cs, hg, hp, hb, hcs, he⟩ := hR 14 (by decide)
    clear hR
    obtain rfl := he rfl
    obtain ⟨u1, u3, u4, u5, u6, u7, u8, u9, u10, u11, u12, u13, u14, u15, u16, u17, u18, u19, u20, u21, u22, u23, u24, u25, u26, u27, u28, u29, u30, u31, u32, u33, u34, u35, u36, u37, u38, u39, u40, u41, rfl⟩ := hB
    obtain rfl : u4 = .pointer (some ⟨g, 0, none⟩) := hp
    have HC := Lib.hid hC
    have HB := Lib.hid hb
    clear hC hb hcs he H2 H6 H4 HX HY HZ
    go_wp2_with (refine wpList_load_row rfl 23 (.tmp 4) rfl g rfl 23 (ta b1 x y z) (0, 0) _ HB.out Tryd.underlying23 rfl size_tag ?_)
    refine (rtag_may_any _ _ _ _ _).mono ?_
    rintro r w5 ⟨rfl, hb5⟩
    rw [HM.out]
    have HR5 := Lib.hid (HC.out.1.after hb5)
    have HB5 := Lib.hid (HB.out.after hb5)
    have HL5 := Lib.hid (HC.out.2.trans (hb5.mono (by have := HC.out.2.size; exact this)))
    clear hb5 HM
    cases m
    · go_wp2_with (refine wpList_store_row rfl 23 (.tmp 2) (.tmp 40) rfl w.heap.size (ta 0 0 0 0) rfl rfl 23 (ta 0 0 0 0) HR5.out size_tag rfl (ta_one _ _ _ _) ?_)
      exact bodyPost_ret (results_cell_tmp rfl _ _ w.heap.size 23 (ta 0 0 0 0) _ rfl (HR5.out.put _) Tryd.underlying23 rfl size_tag) rfl ⟨rfl, below_put (Nat.le_refl _) _ HL5.out⟩
    · go_wp2_with (first
        | (refine wpList_load_row rfl 23 (.tmp 4) rfl g rfl 23 (ta b1 x y z) (0, 0) _ HB5.out Tryd.underlying23 rfl size_tag ?_)
        | (refine wpList_store_row rfl 23 (.tmp 2) (.tmp 41) rfl w.heap.size (ta b1 x y z) rfl rfl 23 (ta 0 0 0 0) HR5.out size_tag rfl (ta_one _ _ _ _) ?_))
      exact bodyPost_ret (results_cell_tmp rfl _ _ w.heap.size 23 (ta b1 x y z) _ rfl (HR5.out.put _) Tryd.underlying23 rfl size_tag) rfl ⟨rfl, below_put (Nat.le_refl _) _ HL5.out⟩

end Go.Proofs.YtlacmfacigfioaaDoor

/- Tags: what Encode, Decode and May answer, as plain functions of their arguments; the reference's, whole; two tags compared. -/
namespace Go.Proofs.YtlacmfacigfioaaDoor
open Go.RowKit

def encT (k l q e : Int) : ByteArray := if MayT k l q e then tagS k l q e else ByteArray.empty
def encE (k l q e : Int) : Int := if MayT k l q e then 0 else 1
def decA (s : ByteArray) : Array Value := if OkT s then ta (byteT s 1) (lT s) (qT s) (eT s) else ta 0 0 0 0
def decE (s : ByteArray) : Int := if OkT s then 0 else 3
theorem decA_ok {s : ByteArray} (h : OkT s) : decA s = ta (byteT s 1) (lT s) (qT s) (eT s) := if_pos h
theorem decA_no {s : ByteArray} (h : ¬ OkT s) : decA s = ta 0 0 0 0 := if_neg h
def EncT (k l q e : Int) (w : World) (r : Ending) (w' : World) : Prop := r = .returned (.tuple #[.string (encT k l q e), .int .i64 (encE k l q e)]) ∧ Below w.heap.size w w'
def DecT (s : ByteArray) (w : World) (r : Ending) (w' : World) : Prop := r = .returned (.tuple #[.agg (decA s), .int .i64 (decE s)]) ∧ Below w.heap.size w w'
def MayPost (k l q e : Int) (w : World) (r : Ending) (w' : World) : Prop := r = .returned (.bool (mayB k l q e)) ∧ Below w.heap.size w w'

theorem rtag_enc (k l q e : Int) (w : World) : Calls Tryd.prog 30 #[.agg (ta k l q e)] w (EncT k l q e w) := by
  unfold EncT encT encE
  by_cases h : MayT k l q e
  · rw [if_pos h, if_pos h]; exact rtag_enc_yes k l q e w h
  · rw [if_neg h, if_neg h]; exact rtag_enc_no k l q e w h
theorem rtag_may (k l q e : Int) (w : World) : Calls Tryd.prog 54 #[.agg (ta k l q e)] w (MayPost k l q e w) := rtag_may_any k l q e w
theorem rtag_dec (s : ByteArray) (w : World) (hm : s.size ≤ maxLen) : Calls Tryd.prog 39 #[.string s] w (DecT s w) := by
  unfold DecT decA decE
  by_cases hf : FormT s
  · have h := rtag_dec_yes s w hf
    by_cases hm2 : MayT (byteT s 1) (lT s) (qT s) (eT s)
    · rw [if_pos ⟨hf, hm2⟩, if_pos ⟨hf, hm2⟩]
      rwa [if_pos ((mayB_iff _ _ _ _).2 hm2)] at h
    · rw [if_neg (fun h => hm2 h.2), if_neg (fun h => hm2 h.2)]
      rwa [if_neg (fun h => hm2 ((mayB_iff _ _ _ _).1 h))] at h
  · rw [if_neg (fun h => hf h.1), if_neg (fun h => hf h.1)]
    by_cases hz : s.size = 16
    · exact rtag_dec_form s w hz hf
    · exact rtag_dec_size s w hz hm
/-- are two tags the same? -/
def sameT (k l q e k' l' q' e' : Int) : Bool := k == k' && l == l' && q == q' && e == e'
theorem sameT_self (k l q e : Int) : sameT k l q e k l q e = true := by simp [sameT]
theorem sameT_iff (k l q e k' l' q' e' : Int) : sameT k l q e k' l' q' e' = true ↔ k = k' ∧ l = l' ∧ q = q' ∧ e = e' := by simp [sameT, and_assoc]
theorem fields_tag (k l q e k' l' q' e' : Int) (w : World) : Sem.run Tryd.prog (Op.eqFields 9999 (ta k l q e) (ta k' l' q' e') (Tryd.prog.fieldsOf 23).toList) w = .ok (sameT k l q e k' l' q' e') w := by
  simp only [Program.fieldsOf, Tryd.underlying23]
  simp [Op.eqFields, ta, part, isAgg, run_underlying Tryd.underlying3, run_equalIn_int _ _ _ _ _ _ _ Tryd.underlying3, sameT]
  by_cases h1 : k = k' <;> by_cases h2 : l = l' <;> by_cases h3 : q = q' <;> by_cases h4 : e = e' <;> simp [h1, h2, h3, h4]
theorem eq_tag (k l q e k' l' q' e' : Int) (w : World) : Sem.run Tryd.prog (binOp .eql 23 (.agg (ta k l q e)) (.agg (ta k' l' q' e'))) w = .ok (.bool (sameT k l q e k' l' q' e')) w := by
  rw [run_eql_struct, run_equalIn_agg _ _ _ _ _ (by kernel_rfl) (by kernel_rfl), fields_tag]
  rfl
theorem ne_tag (k l q e k' l' q' e' : Int) (w : World) : Sem.run Tryd.prog (binOp .neq 23 (.agg (ta k l q e)) (.agg (ta k' l' q' e'))) w = .ok (.bool (!sameT k l q e k' l' q' e')) w := by
  rw [run_neq_struct, run_equalIn_agg _ _ _ _ _ (by kernel_rfl) (by kernel_rfl), fields_tag]
  rfl
theorem wp_eql_tag {o : Oper} {a : Act} {w : World} {K : Act → World → Prop} {Q : Exit → Act → World → Prop} (x y : Operand) (ho : o.op = .binOp .eql 23 x y 23)
    (k l q e k' l' q' e' : Int) (hx : a.eval x = .agg (ta k l q e)) (hy : a.eval y = .agg (ta k' l' q' e')) (h : K (a.put o.dst (.bool (sameT k l q e k' l' q' e'))) w) : o.wp Tryd.prog a w K Q := by
  unfold Oper.wp execOp
  simp only [ho, hx, hy, Sem.run_bind, run_eqGuard_agg (P := Tryd.prog) w .eql 23 x y _ _ (by kernel_rfl), Result.andThen_ok, eq_tag]
  exact h
theorem wpList_eql_tag {ops : Array Oper} {rest : List Oper} {o : Oper} {a : Act} {w : World} {Q : Exit → Act → World → Prop} (hgd : o.guard = none) (x y : Operand) (ho : o.op = .binOp .eql 23 x y 23)
    (k l q e k' l' q' e' : Int) (hx : a.eval x = .agg (ta k l q e)) (hy : a.eval y = .agg (ta k' l' q' e')) (h : wpList Tryd.prog ops Q rest (a.put o.dst (.bool (sameT k l q e k' l' q' e'))) w) : wpList Tryd.prog ops Q (o :: rest) a w :=
  wpList_plain hgd fun _ hK => wp_eql_tag x y ho k l q e k' l' q' e' hx hy (hK _ _ h)
theorem decA_ta (s : ByteArray) : ∃ k l q e, decA s = ta k l q e := by
  unfold decA; split <;> exact ⟨_, _, _, _, rfl⟩

end Go.Proofs.YtlacmfacigfioaaDoor

/- The reference of layer 3, walked: power, Places, Xor, Bits, Left. -/
namespace Go.Proofs.YtlacmfacigfioaaDoor
set_option maxRecDepth 100000
open Go.RowKit

/-- numbers as cells -/
def V (x : Nat) : Value := .int .i64 (x : Nat)
/-- the first cells of a block are these numbers -/
def IntsAt (w : World) (g : Nat) (xs : List Nat) : Prop := ∀ i, i < xs.length → w.cell? ⟨g, i, none⟩ = some (.int .i64 ((xs.getD i 0 : Nat) : Int))
theorem IntsAt.below {w w' : World} {B g : Nat} {xs : List Nat} (h : IntsAt w g xs) (hb : Below B w w') (hg : g < B) : IntsAt w' g xs := by
  intro i hi
  rw [hb.cell (p := ⟨g, i, none⟩) hg]; exact h i hi
/-- this value is a slice of these numbers -/
def Ints (w : World) (v : Value) (xs : List Nat) : Prop := ∃ a ca, v = .slice a xs.length ca ∧ ∀ i, i < xs.length → ∃ b, a = some ⟨b, 0, none⟩ ∧ b < w.heap.size ∧ IntsAt w b xs
theorem Ints.below {w w' : World} {v : Value} {xs : List Nat} (h : Ints w v xs) (hb : Below w.heap.size w w') : Ints w' v xs := by
  obtain ⟨a, ca, h1, h2⟩ := h
  refine ⟨a, ca, h1, fun i hi => ?_⟩
  obtain ⟨b, h3, h4, h5⟩ := h2 i hi
  exact ⟨b, h3, Nat.lt_of_lt_of_le h4 hb.size, h5.below hb h4⟩
theorem owned_cells {w : World} {B E : Nat} {v : Value} {n : Nat} {xs : List Nat} (h : w.ownsRow B E 1 v n (xs.map V)) (hn : n = xs.length) :
    (v = .slice none 0 0 ∧ xs = []) ∨ ∃ g cap, v = .slice (some ⟨g, 0, none⟩) n cap ∧ B ≤ g ∧ g < w.heap.size ∧ IntsAt w g xs := by
  subst hn
  obtain ⟨_, h⟩ := h
  rcases h with ⟨h1, h2⟩ | ⟨g, cap, cur, h1, h2, h3, h4, _, h5, h6⟩
  · exact Or.inl ⟨h1, List.eq_nil_of_length_eq_zero h2⟩
  · refine Or.inr ⟨g, cap, h1, h2, ?_, ?_⟩
    · rcases Nat.lt_or_ge g w.heap.size with h | h
      · exact h
      · rw [Array.getElem?_eq_none h] at h3; cases h3
    · intro i hi
      have h7 : cur.toList[i]? = some (V (xs.getD i 0)) := by
        have h8 : (cur.toList.take (xs.length * 1))[i]? = cur.toList[i]? := List.getElem?_take_of_lt (by omega)
        rw [← h8, h6]
        simp [List.getD, hi]
      simpa [World.cell?, h3, V] using h7
theorem owned_ints {w : World} {B E : Nat} {v : Value} {n : Nat} {xs : List Nat} (h : w.ownsRow B E 1 v n (xs.map V)) (hn : n = xs.length) : Ints w v xs := by
  rcases owned_cells h hn with ⟨rfl, rfl⟩ | ⟨g, cap, rfl, _, hg, hi⟩
  · exact ⟨none, 0, rfl, fun i hi => by simp at hi⟩
  · subst hn
    exact ⟨_, cap, rfl, fun i _ => ⟨g, rfl, hg, hi⟩⟩
theorem Tryd.infoInt : (Tryd.prog.info? 3).map (fun i => (i.zero, i.size, i.bytes)) = some (some (.int .i64 0), 1, 8) := by kernel_rfl
/-! power -/
def isPow (n : Nat) : Bool := n == 1 || n == 2 || n == 4 || n == 8 || n == 16 || n == 32 || n == 64 || n == 128
theorem pow_end {n k : Nat} (hn : n < 72) (hk : k ≤ 7) (h : ∀ j, j < k → 2 ^ j < n) (h2 : ¬ 2 ^ k < n) : decide (2 ^ k = n) = isPow n := by
  have h3 : ∀ n, n < 72 → ∀ k, k < 8 → (∀ j, j < k → 2 ^ j < n) → ¬ 2 ^ k < n → decide (2 ^ k = n) = isPow n := by decide +kernel
  exact h3 n hn k (by omega) h h2
theorem power_is (n : Nat) (w : World) (h1 : 3 ≤ n) (h2 : n < 72) :
    Calls Tryd.prog 86 #[.int .i64 n] w fun e w' => e = .returned (.bool (isPow n)) ∧ w = w' := by
  go_enter Tryd.func86, Tryd.ntmps86
  go_wp2
  go_loop [3] (fun p => ∃ k : Nat, k ≤ 7 ∧ p = .int .i64 ((2 ^ k : Nat) : Int) ∧ ∀ j, j < k → 2 ^ j < n) (fun p => 200 - (intOf p).toNat)
  case atStart => exact ⟨0, by omega, rfl, fun j hj => by omega⟩
  case round =>
    obtain ⟨k, hk, rfl, hlow⟩ := hrel
    have HL := Lib.hid hlow
    obtain ⟨x, hx⟩ : ∃ x, 2 ^ k = x := ⟨_, rfl⟩
    have HX := Lib.hid hx
    have HS : Hid (2 ^ (k + 1) = x * 2) := by rw [← hx]; exact Nat.pow_succ ..
    have hx0 : 0 < x := by rw [← hx]; exact Nat.pow_pos (by decide)
    rw [hx]
    clear hx hlow
    by_cases hlt : x < n
    · have hk7 : k + 1 ≤ 7 := by
        rcases Nat.lt_or_ge k 7 with h | h
        · omega
        · have : k = 7 := by omega
          subst this; have := HX.out; omega
      go_wp2
      go_round
      case rel =>
        refine ⟨k + 1, hk7, by rw [HS.out]; go_num, fun j hj => ?_⟩
        rcases Nat.lt_or_ge j k with h | h
        · exact HL.out j h
        · obtain rfl : j = k := by omega
          rw [HX.out]; exact hlt
      case measure => simp [intOf]; omega
    · have he := pow_end h2 hk HL.out (by rw [HX.out]; exact hlt)
      rw [HX.out] at he
      go_wp2
      go_ret
      exact ⟨ret_bool (by rw [← he, Bool.eq_iff_iff]; simp; omega), rfl⟩

/-! Places -/
def plTo (n : Nat) : List Nat := (List.range n).filter fun i => decide (3 ≤ i) && !isPow i
theorem plTo_succ (n : Nat) (h : 3 ≤ n) : plTo (n + 1) = plTo n ++ (if isPow n then [] else [n]) := by
  unfold plTo
  rw [List.range_succ, List.filter_append]
  congr 1
  cases hb : isPow n <;> simp [hb, h]
theorem plTo_length (n : Nat) : (plTo n).length ≤ n := by
  unfold plTo
  exact Nat.le_trans (List.length_filter_le _ _) (by simp)
theorem plTo_all : plTo 72 ++ [1, 2, 4, 8, 16, 32, 64, 0] = pl := by decide +kernel
theorem rel_pl {w wr w1 : World} {B n m : Nat} {v' : Value} {x : Int} (hn : 3 ≤ n) (hp : isPow n = false) (hm : m = (plTo n).length) (ho : w1.ownsRow B 3 1 v' (m + 1) ((plTo n).map V ++ [.int .i64 x])) (hv : x = (n : Nat)) (hb : Below B w wr) (hg : Below B wr w1) :
    w1.ownsRow B 3 1 v' (plTo (n + 1)).length ((plTo (n + 1)).map V) ∧ Below B w w1 := by
  subst hv; subst hm
  rw [plTo_succ n hn, hp]
  exact ⟨by simpa [V] using ho, hb.trans hg⟩
theorem rel_all {w wr w1 : World} {B m : Nat} {v' : Value} (hm : m = (plTo 72).length) (ho : w1.ownsRow B 3 1 v' (m + 8) ((plTo 72).map V ++ [.int .i64 1, .int .i64 2, .int .i64 4, .int .i64 8, .int .i64 16, .int .i64 32, .int .i64 64, .int .i64 0])) (hb : Below B w wr) (hg : Below B wr w1) :
    w1.ownsRow B 3 1 v' 72 (pl.map V) ∧ Below B w w1 := by
  subst hm
  refine ⟨?_, hb.trans hg⟩
  rw [← plTo_all, List.map_append]
  exact ho
theorem cell_eight_new (w : World) (t : TypeId) (a b c d e f g h : Value) : ∀ j u, [a, b, c, d, e, f, g, h][j]? = some u → (w.alloc (.cells #[a, b, c, d, e, f, g, h] t)).cell? ((⟨w.heap.size, 0, none⟩ : Addr).add j) = some u := by
  intro j u hu
  rcases j with _ | _ | _ | _ | _ | _ | _ | _ | j
  all_goals simp at hu
  all_goals subst hu
  all_goals simp [Addr.add, World.cell?_alloc_new]
def PlacesPost (B : Nat) (w : World) (e : Ending) (w' : World) : Prop := ∃ v, e = .returned v ∧ w'.ownsRow B 3 1 v 72 (pl.map V) ∧ Below B w w'

set_option maxRecDepth 100000 in
theorem places_any (w : World) : Calls Tryd.prog 66 #[] w (PlacesPost w.heap.size w) := by
  obtain ⟨i0, hi, hz0, hz1, hz2⟩ := info_parts Tryd.infoInt
  go_enter Tryd.func66, Tryd.ntmps66
  go_wp2
  go_loopw [1, 2] (fun b i wr => ∃ n : Nat, 3 ≤ n ∧ n ≤ 72 ∧ i = .int .i64 n ∧ wr.ownsRow w.heap.size 3 1 b (plTo n).length ((plTo n).map V) ∧ Below w.heap.size w wr) (fun _ i _ => 72 - (intOf i).toNat)
  case atStart => exact ⟨3, by omega, by omega, rfl, by rw [show plTo 3 = [] by decide +kernel]; exact ⟨rfl, Or.inl ⟨rfl, rfl⟩⟩, Below.refl _ _⟩
  case round =>
    obtain ⟨n, hn3, hn, rfl, hown, hb⟩ := hrel
    obtain ⟨m, hm⟩ : ∃ m, (plTo n).length = m := ⟨_, rfl⟩
    have HM := Lib.hid hm
    have hm2 : m ≤ 72 := by have := plTo_length n; omega
    rw [hm] at hown
    clear hm
    by_cases hlt : n < 72
    · cases hp : isPow n with
      | true =>
        have HP := Lib.hid hp
        have HO := Lib.hid hown
        clear hp hown
        go_wp2_with (go_at_call 86; refine (power_is n _ hn3 hlt).mono ?_; rintro e w' ⟨rfl, rfl⟩; rw [HP.out])
        go_roundw
        case rel => exact ⟨n + 1, by omega, by omega, by go_num, by rw [plTo_succ n hn3, HP.out]; simpa [HM.out] using HO.out, hb⟩
        case measure => simp [intOf]; omega
      | false =>
        have HP := Lib.hid hp
        clear hp
        go_wp2_with (first | (go_at_call 86; refine (power_is n _ hn3 hlt).mono ?_; rintro e w' ⟨rfl, rfl⟩; rw [HP.out]) | (at_builtin; refine wpList_append_own _ rfl _ _ 36 rfl w.heap.size 3 i0 (.int .i64 0) 1 8 Tryd.underlying36 hi hz0 hz1 hz2 rfl (by decide) _ _ _ rfl (hown.alloc _) ⟨wr.heap.size, 0, none⟩ 1 1 [.int .i64 (n : Int)] rfl rfl ?c1 ?c2 ?c3 ?c4 ?c5 ?_))
        case c1 => exact cell_one_new _ _ _
        case c2 => intro u hu; simp at hu; subst hu; rfl
        case c3 => unfold maxLen; omega
        case c4 => omega
        case c5 => have := hb.size; simp; omega
        intro v' w1 hown1 hgrow _
        have HR := Lib.hid (rel_pl hn3 HP.out HM.out.symm hown1 rfl hb (own_below hown hb.size hgrow))
        clear hown1 hgrow hown
        go_wp2
        go_roundw
        case rel => exact ⟨n + 1, by omega, by omega, by go_num, HR.out.1, HR.out.2⟩
        case measure => simp [intOf]; omega
    · obtain rfl : n = 72 := by omega
      go_wp2_with (at_builtin; refine wpList_append_own _ rfl _ _ 36 rfl w.heap.size 3 i0 (.int .i64 0) 1 8 Tryd.underlying36 hi hz0 hz1 hz2 rfl (by decide) _ _ _ rfl (hown.alloc _) ⟨wr.heap.size, 0, none⟩ 8 8 [.int .i64 1, .int .i64 2, .int .i64 4, .int .i64 8, .int .i64 16, .int .i64 32, .int .i64 64, .int .i64 0] rfl rfl ?c1 ?c2 ?c3 ?c4 ?c5 ?_)
      case c1 => exact cell_eight_new _ _ _ _ _ _ _ _ _ _
      case c2 => intro u hu; simp at hu; rcases hu with rfl | rfl | rfl | rfl | rfl | rfl | rfl | rfl <;> rfl
      case c3 => unfold maxLen; omega
      case c4 => omega
      case c5 => have := hb.size; simp; omega
      intro v' w1 hown1 hgrow _
      have HR := Lib.hid (rel_all HM.out.symm hown1 hb (own_below hown hb.size hgrow))
      clear hown1 hgrow hown
      go_wp2
      go_ret
      exact ⟨_, rfl, HR.out.1, HR.out.2⟩

end Go.Proofs.YtlacmfacigfioaaDoor

/- The reference of layer 3, walked: Xor, Bits, Left. -/
namespace Go.Proofs.YtlacmfacigfioaaDoor
set_option maxRecDepth 100000
open Go.RowKit

theorem xor_div (a b k : Nat) : (a ^^^ b) / 2 ^ k = a / 2 ^ k ^^^ b / 2 ^ k := by
  apply Nat.eq_of_testBit_eq; intro i
  rw [Nat.testBit_xor, Nat.testBit_div_two_pow, Nat.testBit_div_two_pow, Nat.testBit_div_two_pow, Nat.testBit_xor]
theorem xor_step (a b k : Nat) : (a ^^^ b) % 2 ^ (k + 1) = (a ^^^ b) % 2 ^ k + 2 ^ k * ((a / 2 ^ k % 2 + b / 2 ^ k % 2) % 2) := by
  rw [Nat.mod_pow_succ, xor_div, xor_odd]

set_option maxRecDepth 100000 in
theorem xor_any (a b : Nat) (w : World) (ha : a < 128) (hb : b < 128) :
    Calls Tryd.prog 83 #[.int .i64 a, .int .i64 b] w fun e w' => e = .returned (.int .i64 ((a ^^^ b : Nat) : Int)) ∧ w = w' := by
  have HS := Lib.hid (xor_step a b)
  have HA := Lib.hid ha
  have HB := Lib.hid hb
  clear ha hb
  go_enter Tryd.func83, Tryd.ntmps83
  go_wp2
  go_loop [0, 1, 5, 6] (fun x y o p => ∃ k : Nat, k ≤ 7 ∧ x = .int .i64 ((a / 2 ^ k : Nat) : Int) ∧ y = .int .i64 ((b / 2 ^ k : Nat) : Int) ∧ o = .int .i64 (((a ^^^ b) % 2 ^ k : Nat) : Int) ∧ p = .int .i64 ((2 ^ k : Nat) : Int)) (fun x y _ _ => (intOf x).toNat + (intOf y).toNat)
  case atStart => exact ⟨0, by omega, by simp, by simp, by simp [Nat.mod_one], rfl⟩
  case round =>
    obtain ⟨k, hk, rfl, rfl, rfl, rfl⟩ := hrel
    obtain ⟨x, hx⟩ : ∃ x, a / 2 ^ k = x := ⟨_, rfl⟩
    obtain ⟨y, hy⟩ : ∃ y, b / 2 ^ k = y := ⟨_, rfl⟩
    obtain ⟨o, ho⟩ : ∃ o, (a ^^^ b) % 2 ^ k = o := ⟨_, rfl⟩
    obtain ⟨p, hp⟩ : ∃ p, 2 ^ k = p := ⟨_, rfl⟩
    have HX : Hid (a / 2 ^ (k + 1) = x / 2) := by rw [Nat.pow_succ, ← Nat.div_div_eq_div_mul, hx]; rfl
    have HY : Hid (b / 2 ^ (k + 1) = y / 2) := by rw [Nat.pow_succ, ← Nat.div_div_eq_div_mul, hy]; rfl
    have HP : Hid (2 ^ (k + 1) = p * 2) := by rw [← hp]; exact Nat.pow_succ ..
    have HO : Hid ((a ^^^ b) % 2 ^ (k + 1) = o + p * ((x % 2 + y % 2) % 2)) := by rw [HS.out k, hx, hy, ho, hp]; rfl
    have hxb : x < 128 := by rw [← hx]; exact Nat.lt_of_le_of_lt (Nat.div_le_self _ _) HA.out
    have hyb : y < 128 := by rw [← hy]; exact Nat.lt_of_le_of_lt (Nat.div_le_self _ _) HB.out
    have hpb : p ≤ 128 := by rw [← hp]; exact Nat.le_trans (Nat.pow_le_pow_right (by decide) hk) (by decide)
    have hob : o < 128 := by rw [← ho]; exact Nat.lt_of_le_of_lt (Nat.mod_le _ _) (Nat.xor_lt_two_pow (n := 7) HA.out HB.out)
    have HK : Hid (k = 7 → x = 0 ∧ y = 0) := by
      intro e; subst e
      rw [← hx, ← hy]
      have := HA.out; have := HB.out
      exact ⟨by omega, by omega⟩
    have HE : Hid (x = 0 → y = 0 → o = a ^^^ b) := by
      intro e1 e2
      rw [← ho]
      have h1 : a < 2 ^ k := by
        have hp0 : 0 < 2 ^ k := Nat.pow_pos (by decide)
        rcases Nat.lt_or_ge a (2 ^ k) with h | h
        · exact h
        · have := Nat.div_pos h hp0; omega
      have h2 : b < 2 ^ k := by
        have hp0 : 0 < 2 ^ k := Nat.pow_pos (by decide)
        rcases Nat.lt_or_ge b (2 ^ k) with h | h
        · exact h
        · have := Nat.div_pos h hp0; omega
      exact Nat.mod_eq_of_lt (Nat.xor_lt_two_pow h1 h2)
    rw [hx, hy, ho, hp]
    clear hx hy ho hp
    by_cases hz : x = 0 ∧ y = 0
    · have HE0 := Lib.hid (HE.out hz.1 hz.2)
      obtain ⟨rfl, rfl⟩ := hz
      clear HE HK
      go_wp2
      go_ret
      exact ⟨ret_int (by rw [← HE0.out]), rfl⟩
    · have hg : (decide ((0 : Int) < (x : Int)) || decide ((0 : Int) < (y : Int))) = true := by simp; omega
      have hk7 : k + 1 ≤ 7 := by
        rcases Nat.lt_or_ge k 7 with h | h
        · omega
        · exact absurd (HK.out (by omega)) hz
      by_cases hd : x % 2 = y % 2
      · have hd2 : ((x : Int) % 2 == (y : Int) % 2) = true := by simp; omega
        have e0 : (x % 2 + y % 2) % 2 = 0 := by omega
        have HO2 : Hid ((a ^^^ b) % 2 ^ (k + 1) = o) := by have := HO.out; rw [e0] at this; exact this
        go_wp2
        all_goals
          go_round
          case rel => exact ⟨k + 1, hk7, by rw [HX.out]; go_num, by rw [HY.out]; go_num, by rw [HO2.out], by rw [HP.out]; go_num⟩
          case measure => simp [intOf]; omega
      · have hd2 : ((x : Int) % 2 == (y : Int) % 2) = false := by simp; omega
        have e0 : (x % 2 + y % 2) % 2 = 1 := by omega
        have HO2 : Hid ((a ^^^ b) % 2 ^ (k + 1) = o + p) := by have := HO.out; rw [e0, Nat.mul_one] at this; exact this
        go_wp2
        all_goals
          go_round
          case rel => exact ⟨k + 1, hk7, by rw [HX.out]; go_num, by rw [HY.out]; go_num, by rw [HO2.out]; go_num, by rw [HP.out]; go_num⟩
          case measure => simp [intOf]; omega

/-! Left -/
def left3 (xs : List Nat) (k : Nat) : Nat := leftL (xs.take k)
theorem left3_succ (xs : List Nat) (k : Nat) (h : k < xs.length) : left3 xs (k + 1) = left3 xs k ^^^ place (xs.getD k 0) := by
  unfold left3
  rw [List.take_succ_eq_append_getElem h, leftL_snoc]
  simp [List.getD, h]
theorem left3_all (xs : List Nat) : left3 xs xs.length = leftL xs := by unfold left3; rw [List.take_length]
theorem place_cell {w : World} {g : Nat} (h : IntsAt w g pl) (i : Nat) (hi : i < 72) : w.cell? ⟨g, i, none⟩ = some (.int .i64 ((place i : Nat) : Int)) := h i hi

set_option maxRecDepth 100000 in
theorem rleft_any (v : Value) (xs : List Nat) (w : World) (hv : Ints w v xs) (hl : ∀ i, i ∈ xs → i < 72) (hn : xs.length ≤ 100) :
    Calls Tryd.prog 59 #[v] w fun e w' => e = .returned (.int .i64 ((leftL xs : Nat) : Int)) ∧ Below w.heap.size w w' := by
  obtain ⟨a, ca, rfl, hc⟩ := hv
  have HC := Lib.hid hc
  have HA := Lib.hid (left3_all xs)
  have HS := Lib.hid (left3_succ xs)
  have HL := Lib.hid hl
  clear hc hl
  obtain ⟨n, hn2⟩ : ∃ n, xs.length = n := ⟨_, rfl⟩
  have HN := Lib.hid hn2
  rw [hn2] at hn ⊢
  clear hn2
  go_enter Tryd.func59, Tryd.ntmps59
  go_wp2_with fail
  refine (places_any _).mono ?_
  rintro e w1 ⟨v, rfl, hown, hb⟩
  rcases owned_cells hown rfl with ⟨_, h0⟩ | ⟨g, cap, rfl, _, hg, hpl⟩
  · exact absurd h0 (by decide)
  have HP := Lib.hid hpl
  have HB := Lib.hid hb
  clear hown hpl hb
  go_wp2_with fail
  go_loop [4, 5] (fun x i => ∃ k : Nat, k ≤ n ∧ i = .int .i64 k ∧ x = .int .i64 ((left3 xs k : Nat) : Int)) (fun _ i => n - (intOf i).toNat)
  case atStart => exact ⟨0, Nat.zero_le _, rfl, by unfold left3; rw [List.take_zero]; rfl⟩
  case round =>
    obtain ⟨k, hk, rfl, rfl⟩ := hrel
    by_cases hlt : k < n
    · have hlt2 : k < xs.length := by rw [HN.out]; exact hlt
      obtain ⟨b, ha, hbz, hcells⟩ := HC.out k hlt2
      subst ha
      have hcell := HB.out.cell (p := ⟨b, k, none⟩) hbz
      rw [hcells k hlt2] at hcell
      obtain ⟨j, hj⟩ : ∃ j, xs.getD k 0 = j := ⟨_, rfl⟩
      have hj72 : j < 72 := by
        rw [← hj]
        apply HL.out
        have : xs.getD k 0 = xs[k] := by simp [List.getD, hlt2]
        rw [this]; exact List.getElem_mem _
      have HK := Lib.hid (HS.out k hlt2)
      rw [hj] at hcell HK
      have hpc := place_cell HP.out j hj72
      obtain ⟨q, hq⟩ : ∃ q, place j = q := ⟨_, rfl⟩
      have hq7 : q < 128 := by rw [← hq]; have := place_le j; omega
      rw [hq] at hpc HK
      obtain ⟨x, hx⟩ : ∃ x, left3 xs k = x := ⟨_, rfl⟩
      have hx7 : x < 128 := by rw [← hx]; exact leftL_lt _
      rw [hx] at HK ⊢
      clear hj hq hx hcells
      go_wp2_with fail
      refine (xor_any x q _ hx7 hq7).mono ?_
      rintro e w' ⟨rfl, rfl⟩
      rw [← HK.out]
      go_wp2_with fail
      go_round
      case rel => exact ⟨k + 1, by omega, by go_num, rfl⟩
      case measure => simp [intOf]; omega
    · obtain rfl : k = n := by omega
      have HE : Hid (left3 xs k = leftL xs) := by rw [← HA.out, HN.out]; rfl
      go_wp2
      go_ret
      exact ⟨ret_int (by rw [HE.out]), HB.out⟩

end Go.Proofs.YtlacmfacigfioaaDoor
