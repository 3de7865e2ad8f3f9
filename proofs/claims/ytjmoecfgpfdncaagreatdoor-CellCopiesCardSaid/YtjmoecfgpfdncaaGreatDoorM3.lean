/- Texts of one claim, merged: OrR3, OrR4, Inv, Inv2, Reg, CeR1, CeR2, CeR3, CeR4, CeG. -/
import Derived.Test.YtjmoecfgpfdncaaGreatDoorM2
import Derived.Deep.QuietTactic
import Derived.BigQuiet
import Derived.Orders
import Derived.Deep.OwnRows
import Derived.Lib.OwnKind
import Derived.Lib.SmallJoins

/- The reference of layer 7, walked: Place, After. -/
namespace Go.Proofs.YtjmoecfgpfdncaaGreatDoor
set_option maxRecDepth 100000
open Go.RowKit

theorem drewN_below2 (B : Nat) (w : World) (n : Nat) : Below B w (w.drewN n) := ⟨rfl, rfl, rfl, Nat.le_refl _, fun _ _ => rfl⟩
/-- two steps compared -/
def sameS (l : Int) (f : Bool) (l' : Int) (f' : Bool) : Bool := l == l' && f == f'
theorem run_equalIn_bool (n : Nat) (f f' : Bool) (w : World) : Sem.run Tryz.prog (Op.equalIn (n + 1) 4 (.bool f) (.bool f')) w = .ok (f == f') w := by
  simp [Op.equalIn, run_underlying Tryz.underlying4]
theorem eql_step (l l' : Int) (f f' : Bool) (w : World) : Sem.run Tryz.prog (binOp .eql 70 (.agg #[.int .i64 l, .bool f]) (.agg #[.int .i64 l', .bool f'])) w = .ok (.bool (sameS l f l' f')) w := by
  rw [run_eql_struct, run_equalIn_agg _ _ _ _ _ (by kernel_rfl) (by kernel_rfl)]
  simp only [Program.fieldsOf, Tryz.underlying70]
  simp [Op.eqFields, part, isAgg, run_underlying Tryz.underlying3, run_underlying Tryz.underlying4, run_equalIn_int _ _ _ _ _ _ _ Tryz.underlying3, run_equalIn_bool, sameS]
  by_cases h1 : l = l' <;> cases f <;> cases f' <;> simp [h1]
theorem sameS_iff (l l' : Int) (f f' : Bool) : sameS l f l' f' = true ↔ l = l' ∧ f = f' := by simp [sameS]

end Go.Proofs.YtjmoecfgpfdncaaGreatDoor

/- The reference of layer 7, walked: After. -/
namespace Go.Proofs.YtjmoecfgpfdncaaGreatDoor
set_option maxRecDepth 100000
open Go.RowKit

theorem ror_after_yes (m k l : Nat) (w : World) (hl : LinesOk m) (hk : k ≤ 2 * m) (hll : l < m) :
    Calls Tryz.prog 61 #[.int .i64 m, .int .i64 k, .int .i64 l] w fun e w' => e = .returned (.tuple #[.int .i64 (afterC m k l : Nat), .int .i64 0]) ∧ Below w.heap.size w w' := by
  have hm1 : 1 ≤ m := by unfold LinesOk at hl; omega
  have hm64 : m ≤ 64 := by unfold LinesOk at hl; omega
  have HL := Lib.hid hl
  have hlen := refL_length m hm1
  have HS : Hid (∀ i, i < 2 * m → (refL m).getD i (0, false) = stepC m i) := fun i hi => refL_at hm1 hm64 hi
  have HN : Hid (∀ i, i < 2 * m → afterC m (i + 1) l = afterC m i l + (if (stepC m i).1 = l then 1 else 0)) := fun i hi => after_succ hi hll
  have HLE : Hid (∀ i, afterC m i l ≤ 2) := fun i => after_le m i l
  have H0 := Lib.hid (after_none m l)
  have hki : (k : Int) ≤ 2 * (m : Int) := by omega
  have hli : (l : Int) < (m : Int) := by omega
  have hz0 : (2 * (m : Int) == 0) = false := by rw [Bool.eq_false_iff]; intro h; rw [beq_iff_eq] at h; omega
  clear hl
  go_enter Tryz.func61, Tryz.ntmps61
  go_wp2_with fail
  refine (ror_steps (m : Int) _).mono ?_
  rintro e w1 ⟨⟨v, rfl, hv, _⟩, hb1⟩
  have hv := hv HL.out
  rw [Int.toNat_natCast] at hv
  obtain ⟨g, cap, rfl, hcap, hcs⟩ := hv.at (by omega)
  rw [hlen] at hcap hcs ⊢
  have HCS := Lib.hid hcs
  have HB := Lib.hid hb1
  clear hb1 hv hcs
  go_wp2_with fail
  go_loop [9, 10] (fun c i => ∃ j : Nat, j ≤ k ∧ i = .int .i64 j ∧ c = .int .i64 (afterC m j l : Nat)) (fun _ i => k + 1 - (intOf i).toNat)
  case atStart => exact ⟨0, Nat.zero_le _, rfl, by rw [H0.out]; rfl⟩
  case round =>
    obtain ⟨j, hj, rfl, rfl⟩ := hrel
    have hle := HLE.out j
    obtain ⟨c, hc⟩ : ∃ c, afterC m j l = c := ⟨_, rfl⟩
    rw [hc] at hle ⊢
    have HC := Lib.hid hc
    clear hc
    by_cases hlt : j < k
    · have hj2 : (j : Int) < 2 * (m : Int) := by omega
      obtain ⟨h1, _⟩ := HCS.out j (by omega)
      rw [HS.out j (by omega)] at h1
      have hn := HN.out j (by omega)
      obtain ⟨⟨sl, sf⟩, hs⟩ : ∃ s, stepC m j = s := ⟨_, rfl⟩
      rw [hs] at h1 hn
      rw [HC.out] at hn
      have HNX := Lib.hid hn
      clear hs hn
      by_cases hsl : sl = l
      · have HR : Hid (afterC m (j + 1) l = c + 1) := HNX.out.trans (by rw [if_pos hsl])
        have hsi : (sl : Int) = (l : Int) := by omega
        have hsb : ((sl : Int) == (l : Int)) = true := by rw [beq_iff_eq]; exact hsi
        clear hsl hsi
        go_wp2_with fail
        go_round
        case rel => exact ⟨j + 1, by omega, by go_num, by rw [HR.out]; go_num⟩
        case measure => simp [intOf]; omega
      · have HR : Hid (afterC m (j + 1) l = c) := HNX.out.trans (by rw [if_neg hsl]; rfl)
        have hsb : ((sl : Int) == (l : Int)) = false := by rw [Bool.eq_false_iff]; intro h; rw [beq_iff_eq] at h; omega
        clear hsl
        go_wp2_with fail
        go_round
        case rel => exact ⟨j + 1, by omega, by go_num, by rw [HR.out]⟩
        case measure => simp [intOf]; omega
    · obtain rfl : j = k := by omega
      go_wp2_with fail
      go_ret2
      exact ⟨by rw [HC.out]; rfl, HB.out⟩
theorem ror_after_no (n k l : Int) (w : World) (h : ¬ IsAfter n k l) :
    Calls Tryz.prog 61 #[.int .i64 n, .int .i64 k, .int .i64 l] w fun e w' => e = .returned (.tuple #[.int .i64 0, .int .i64 1]) ∧ Below w.heap.size w w' := by
  by_cases hl : LinesOk n
  · obtain ⟨m, rfl⟩ : ∃ m : Nat, n = m := ⟨n.toNat, by unfold LinesOk at hl; omega⟩
    have hm1 : 1 ≤ m := by unfold LinesOk at hl; omega
    have hm64 : m ≤ 64 := by unfold LinesOk at hl; omega
    have hc : k < 0 ∨ (¬ k < 0 ∧ 2 * (m : Int) < k) ∨ (¬ k < 0 ∧ ¬ 2 * (m : Int) < k ∧ l < 0) ∨ (¬ k < 0 ∧ ¬ 2 * (m : Int) < k ∧ ¬ l < 0 ∧ (m : Int) ≤ l) := by
      by_cases h1 : k < 0
      · exact Or.inl h1
      · by_cases h2 : 2 * (m : Int) < k
        · exact Or.inr (Or.inl ⟨h1, h2⟩)
        · by_cases h3 : l < 0
          · exact Or.inr (Or.inr (Or.inl ⟨h1, h2, h3⟩))
          · by_cases h4 : (m : Int) ≤ l
            · exact Or.inr (Or.inr (Or.inr ⟨h1, h2, h3, h4⟩))
            · exact absurd ⟨hl, by omega, by omega, by omega, by omega⟩ h
    have HL := Lib.hid hl
    have hlen := refL_length m hm1
    have hz0 : (2 * (m : Int) == 0) = false := by rw [Bool.eq_false_iff]; intro h; rw [beq_iff_eq] at h; omega
    clear hl h
    rcases hc with h1 | ⟨h1, h2⟩ | ⟨h1, h2, h3⟩ | ⟨h1, h2, h3, h4⟩
    all_goals
      go_enter Tryz.func61, Tryz.ntmps61
      go_wp2_with fail
      refine (ror_steps (m : Int) _).mono ?_
      rintro e w1 ⟨⟨v, rfl, hv, _⟩, hb1⟩
      have hv := hv HL.out
      rw [Int.toNat_natCast] at hv
      obtain ⟨g, cap, rfl, hcap, hcs⟩ := hv.at (by omega)
      rw [hlen] at hcap ⊢
      have HB := Lib.hid hb1
      clear hb1 hv hcs
      go_wp2_with fail
      go_ret2
      exact ⟨rfl, HB.out⟩
  · have HN := Lib.hid hl
    clear hl h
    go_enter Tryz.func61, Tryz.ntmps61
    go_wp2_with fail
    refine (ror_steps n _).mono ?_
    rintro e w1 ⟨⟨v, rfl, _, hv⟩, hb1⟩
    obtain rfl := hv HN.out
    have HB := Lib.hid hb1
    clear hb1 hv
    go_wp2_with fail
    go_ret2
    exact ⟨rfl, HB.out⟩
theorem ror_after (n k l : Int) (w : World) : Calls Tryz.prog 61 #[.int .i64 n, .int .i64 k, .int .i64 l] w (AfterT n k l w) := by
  unfold AfterT afN afC
  by_cases h : IsAfter n k l
  · rw [if_pos h, if_pos h]
    obtain ⟨hl, h0, h1, h2, h3⟩ := h
    obtain ⟨m, rfl⟩ : ∃ m : Nat, n = m := ⟨n.toNat, by unfold LinesOk at hl; omega⟩
    obtain ⟨j, rfl⟩ : ∃ j : Nat, k = j := ⟨k.toNat, by omega⟩
    obtain ⟨i, rfl⟩ : ∃ i : Nat, l = i := ⟨l.toNat, by omega⟩
    exact ror_after_yes m j i w hl (by omega) (by omega)
  · rw [if_neg h, if_neg h]
    exact ror_after_no n k l w h

end Go.Proofs.YtjmoecfgpfdncaaGreatDoor

/- A region that draws its order, by a fact of each operation's value that stays true whatever comes after it: no order is looked at. -/
namespace Go.Proofs.YtjmoecfgpfdncaaGreatDoor

section
variable {P : Program} {ops : Array Oper} {Q : Exit → Act → World → Prop} {md : Region.Mode}

/-- what operation number i has left in its temporary -/
def slotOf (ops : Array Oper) (i : Nat) (a : Act) : Value := match (ops[i]?).bind (·.dst) with
  | some d => a.tmps.getD d undef
  | none => undef
/-- how many are still to come -/
def still (n : Nat) (listed : Array Bool) : Nat := ((List.range n).filter fun i => !listed.getD i true).length

theorem still_zero {n : Nat} {listed : Array Bool} (h : still n listed = 0) : ∀ i, i < n → listed.getD i true = true := by
  intro i hi
  have h2 : (List.range n).filter (fun i => !listed.getD i true) = [] := List.eq_nil_of_length_eq_zero h
  have h3 := List.filter_eq_nil_iff.1 h2 i (List.mem_range.2 hi)
  simpa using h3
theorem filter_less {α : Type} (l : List α) (p q : α → Bool) (hpq : ∀ x, x ∈ l → q x = true → p x = true) (x : α) (hx : x ∈ l) (hp : p x = true) (hq : q x = false) : (l.filter q).length < (l.filter p).length := by
  induction l with
  | nil => cases hx
  | cons y l ih =>
    have hle : (l.filter q).length ≤ (l.filter p).length := by
      clear ih hx
      induction l with
      | nil => exact Nat.le_refl _
      | cons z l ih2 =>
        have hz := hpq z (by simp)
        have ih3 := ih2 (fun x hx => hpq x (by simp at hx ⊢; rcases hx with h | h <;> simp [h]))
        cases hq' : q z with
        | true => simp [hq', hz hq']; exact ih3
        | false => cases hp' : p z <;> simp [hq', hp'] <;> omega
    rcases List.mem_cons.1 hx with rfl | hx
    · simp [hp, hq]; omega
    · have ih4 := ih (fun z hz => hpq z (List.mem_cons_of_mem _ hz)) hx
      cases hq' : q y with
      | true => simp [hq', hpq y (by simp) hq']; exact ih4
      | false => cases hp' : p y <;> simp [hq', hp'] <;> omega
theorem still_less {n i : Nat} {listed : Array Bool} (hi : i < n) (h : listed.getD i true = false) : still n (listed.setIfInBounds i true) < still n listed := by
  unfold still
  refine filter_less _ _ _ ?_ i (List.mem_range.2 hi) (by simp [h]) ?_
  · intro x _ hx
    by_cases e : i = x
    · subst e
      have hs : i < listed.size := by
        rcases Nat.lt_or_ge i listed.size with h' | h'
        · exact h'
        · simp [Array.getD, Nat.not_lt.2 h'] at h
      simp [Array.getD, hs] at hx
    · simp [getD_set_ne true e] at hx ⊢; exact hx
  · have hs : i < listed.size := by
      rcases Nat.lt_or_ge i listed.size with h' | h'
      · exact h'
      · simp [Array.getD, Nat.not_lt.2 h'] at h
    simp [Array.getD, hs]


theorem slotOf_same {i : Nat} {o : Oper} {d : Tmp} {a : Act} {v : Value} (ho : ops[i]? = some o) (hd : o.dst = some d) (hs : d < a.tmps.size) : slotOf ops i (a.put o.dst v) = v := by
  unfold slotOf
  simp [ho, hd, Act.put, Array.getD, hs]
theorem slotOf_other {i j : Nat} {o o' : Oper} {d d' : Tmp} {a : Act} {v : Value} (_ho : ops[i]? = some o) (hd : o.dst = some d) (ho' : ops[j]? = some o') (hd' : o'.dst = some d') (hne : d ≠ d') : slotOf ops j (a.put o.dst v) = slotOf ops j a := by
  unfold slotOf
  simp only [ho', hd', Option.bind_some, hd, Act.put]
  simp [Array.getD_eq_getD_getElem?, Array.getElem?_setIfInBounds_ne hne]

/-- every operation waits for earlier ones alone, and has a temporary of its own -/
structure Plain (ops : Array Oper) (Base : Act → Prop) : Prop where
  before : ∀ (i : Nat) (o : Oper), ops[i]? = some o → ∀ e ∈ o.after, e.on < i
  own : ∀ (i : Nat) (o : Oper), ops[i]? = some o → ∃ d, o.dst = some d ∧ (∀ a, Base a → d < a.tmps.size) ∧ ∀ (j : Nat) (o' : Oper), ops[j]? = some o' → j ≠ i → ∃ d', o'.dst = some d' ∧ d ≠ d'

/-- WHATEVER ORDER IS PICKED: each operation, in whatever world of the class and whatever frame in which the facts of those that it waits for hold, leaves a value of which its own fact holds; facts stay true as the world goes on. -/
theorem wpAny_facts {Base : Act → Prop} {C : World → Prop} {T : World → World → Prop} {R : Nat → Value → World → Prop} (hpl : Plain ops Base)
    (hmono : ∀ i v w w', R i v w → T w w' → R i v w') (hbase : ∀ (i : Nat) (o : Oper), ops[i]? = some o → ∀ a v, Base a → Base (a.put o.dst v))
    (hops : ∀ (i : Nat) (o : Oper), ops[i]? = some o → ∀ a w, C w → Base a → (∀ e ∈ o.after, Region.binds md e = true → R e.on (slotOf ops e.on a) w) →
      wpOp P ops Q i (fun a' w' => ∃ v, a' = a.put o.dst v ∧ C w' ∧ T w w' ∧ R i v w') a w)
    (hfin : ∀ a w, C w → Base a → (∀ i, i < ops.size → R i (slotOf ops i a) w) → Q .normal a w) :
    ∀ (fuel : Nat) (listed : Array Bool) (a : Act) (w : World), still ops.size listed ≤ fuel → listed.size = ops.size → C w → Base a →
      (∀ i, i < ops.size → listed.getD i true = true → R i (slotOf ops i a) w) → wpAny P md ops Q fuel listed a w := by
  have all : ∀ (listed : Array Bool), listed.size = ops.size → Region.ready md ops listed = [] → ∀ i, i < ops.size → listed.getD i true = true := by
    intro listed hsz hr i
    induction i using Nat.strongRecOn with
    | ind i ih =>
      intro hi
      cases hl : listed.getD i true with
      | true => rfl
      | false =>
        exfalso
        have hm : i ∈ Region.ready md ops listed := by
          rw [mem_ready]
          refine ⟨hl, ops[i], by simp [hi], fun e he _ => ?_⟩
          have hlt := hpl.before i ops[i] (by simp [hi]) e he
          have h2 := ih e.on hlt (by omega)
          have h3 : e.on < listed.size := by omega
          simp [Array.getD, h3] at h2 ⊢
          exact h2
        rw [hr] at hm; cases hm
  intro fuel
  induction fuel with
  | zero =>
    intro listed a w hst hsz hC hB hR
    have hall := still_zero (Nat.le_zero.1 hst)
    have hr : Region.ready md ops listed = [] := by
      cases h : Region.ready md ops listed with
      | nil => rfl
      | cons i l =>
        have hm : i ∈ Region.ready md ops listed := by rw [h]; exact List.mem_cons_self
        obtain ⟨h1, o, ho, _⟩ := mem_ready.1 hm
        have hi : i < ops.size := (Array.getElem?_eq_some_iff.1 ho).1
        rw [hall i hi] at h1; cases h1
    exact ⟨hr, hfin a w hC hB fun i hi => hR i hi (hall i hi)⟩
  | succ fuel ih =>
    intro listed a w hst hsz hC hB hR
    refine ⟨fun hr => hfin a w hC hB fun i hi => hR i hi (all listed hsz hr i hi), fun i hi => ?_⟩
    obtain ⟨h1, o, ho, hdeps⟩ := mem_ready.1 hi
    have hin : i < ops.size := (Array.getElem?_eq_some_iff.1 ho).1
    refine wpOp_mono ?_ (hops i o ho a w hC hB fun e he hb => ?_)
    · rintro a' w' ⟨v, rfl, hC', hT, hRv⟩
      obtain ⟨d, hd, hds, hdo⟩ := hpl.own i o ho
      have hless := still_less hin h1
      refine ih _ _ _ (by omega) (by simp [hsz]) hC' (hbase i o ho a v hB) fun j hj hlj => ?_
      by_cases e : j = i
      · subst e
        rw [slotOf_same ho hd (hds a hB)]; exact hRv
      · obtain ⟨d', hd', hne⟩ := hdo j ops[j] (by simp [hj]) e
        rw [slotOf_other ho hd (by simp [hj]) hd' hne]
        rw [getD_set_ne true (Ne.symm e)] at hlj
        exact hmono j _ _ _ (hR j hj hlj) hT
    · have hlt := hpl.before i o ho e he
      have h2 := hdeps e he hb
      refine hR e.on (by omega) ?_
      have h3 : e.on < listed.size := by omega
      simp [Array.getD, h3] at h2 ⊢
      exact h2

/-- the same, of a region -/
theorem wp_region_facts {id : Nat} {a : Act} {w : World} {Base : Act → Prop} {C : World → Prop} {T : World → World → Prop} {R : Nat → Value → World → Prop} (hm : P.follows .mixedOrders = true) (hpl : Plain ops Base)
    (hmono : ∀ i v w w', R i v w → T w w' → R i v w') (hbase : ∀ (i : Nat) (o : Oper), ops[i]? = some o → ∀ a v, Base a → Base (a.put o.dst v))
    (hC : C { w with drawn := w.drawn + 1 }) (hB : Base a)
    (hops : ∀ (i : Nat) (o : Oper), ops[i]? = some o → ∀ a w, C w → Base a → (∀ e ∈ o.after, Region.binds .any e = true → R e.on (slotOf ops e.on a) w) →
      wpOp P ops Q i (fun a' w' => ∃ v, a' = a.put o.dst v ∧ C w' ∧ T w w' ∧ R i v w') a w)
    (hfin : ∀ a w, C w → Base a → (∀ i, i < ops.size → R i (slotOf ops i a) w) → Q .normal a w) : (Code.region id ops true).wp P Q a w := by
  refine wp_region_any hm (wpAny_facts hpl hmono hbase hops hfin _ _ _ _ ?_ (by simp) hC hB ?_)
  · unfold still
    exact Nat.le_trans (List.length_filter_le _ _) (by simp)
  · intro i hi h
    simp [Array.getD, hi] at h

theorem wpOp_of {i : Nat} {o : Oper} {a : Act} {w : World} {K : Act → World → Prop} (ho : ops[i]? = some o) (hg : o.guard = none) (h : o.wp P a w K Q) : wpOp P ops Q i K a w := by
  unfold wpOp
  simp only [ho, Region.wanted, hg, if_true]
  exact Or.inl h
/-- a fact of each operation, one by one -/
def AllFrom (X : Nat → Oper → Prop) : Nat → List Oper → Prop
  | _, [] => True
  | k, o :: l => X k o ∧ AllFrom X (k + 1) l
theorem AllFrom.at {X : Nat → Oper → Prop} : ∀ {l : List Oper} {k : Nat}, AllFrom X k l → ∀ j o, l[j]? = some o → X (k + j) o
  | [], _, _, j, o, h => by simp at h
  | p :: l, k, h, 0, o, ho => by simp at ho; subst ho; exact h.1
  | p :: l, k, h, j + 1, o, ho => by
    have := AllFrom.at h.2 j o (by simpa using ho)
    rwa [show k + 1 + j = k + (j + 1) by omega] at this
theorem AllFrom.all {X : Nat → Oper → Prop} {l : List Oper} (h : AllFrom X 0 l) : ∀ (i : Nat) (o : Oper), l.toArray[i]? = some o → X i o := fun i o ho => by
  have := AllFrom.at h i o (by simpa using ho)
  rwa [Nat.zero_add] at this
/-- the temporaries of a region's operations -/
def dsts (l : List Oper) : List Tmp := l.filterMap (·.dst)
/-- Plain, as a Bool -/
def plainB (l : List Oper) (n : Nat) : Bool :=
  (List.range l.length).all fun i => match l[i]? with
    | none => true
    | some o => (o.after.all fun e => decide (e.on < i)) && (match o.dst with
      | none => false
      | some d => decide (d < n) && (List.range l.length).all fun j => j == i || (match (l[j]?).bind (·.dst) with | some d' => d != d' | none => false))
theorem plain_of {l : List Oper} {n : Nat} {Base : Act → Prop} (h : plainB l n = true) (hB : ∀ a, Base a → a.tmps.size = n) : Plain l.toArray Base := by
  have key : ∀ (i : Nat) (o : Oper), l[i]? = some o → (∀ e ∈ o.after, e.on < i) ∧ ∃ d, o.dst = some d ∧ d < n ∧ ∀ (j : Nat) (o' : Oper), l[j]? = some o' → j ≠ i → ∃ d', o'.dst = some d' ∧ d ≠ d' := by
    intro i o ho
    have hi : i < l.length := (List.getElem?_eq_some_iff.1 ho).1
    have h1 := List.all_eq_true.1 h i (List.mem_range.2 hi)
    simp only [ho, Bool.and_eq_true] at h1
    refine ⟨fun e he => ?_, ?_⟩
    · have h2 := (Array.all_eq_true_iff_forall_mem.1 h1.1) e he
      simpa using h2
    · cases hd : o.dst with
      | none => rw [hd] at h1; simp at h1
      | some d =>
        rw [hd] at h1
        simp only [Bool.and_eq_true, decide_eq_true_eq] at h1
        refine ⟨d, rfl, h1.2.1, fun j o' ho' hne => ?_⟩
        have hj : j < l.length := (List.getElem?_eq_some_iff.1 ho').1
        have h3 := List.all_eq_true.1 h1.2.2 j (List.mem_range.2 hj)
        simp only [ho', Option.bind_some] at h3
        cases hd' : o'.dst with
        | none => rw [hd'] at h3; simp at h3; exact absurd h3 hne
        | some d' =>
          rw [hd'] at h3
          simp at h3
          exact ⟨d', rfl, h3.resolve_left hne⟩
  refine ⟨fun i o ho => (key i o (by simpa using ho)).1, fun i o ho => ?_⟩
  obtain ⟨_, d, hd, hn, hj⟩ := key i o (by simpa using ho)
  exact ⟨d, hd, fun a ha => by rw [hB a ha]; exact hn, fun j o' ho' hne => hj j o' (by simpa using ho') hne⟩

/-- a drawn region whose operations are written out and unguarded, by facts -/
theorem wp_region_list {id : Nat} {l : List Oper} {a : Act} {w : World} (n : Nat) (Base : Act → Prop) (C : World → Prop) (T : World → World → Prop) (R : Nat → Value → World → Prop) (hm : P.follows .mixedOrders = true)
    (hpl : plainB l n = true) (hsize : ∀ a, Base a → a.tmps.size = n) (hmono : ∀ i v w w', R i v w → T w w' → R i v w')
    (hbase : AllFrom (fun _ o => ∀ a v, Base a → Base (a.put o.dst v)) 0 l) (hC : C { w with drawn := w.drawn + 1 }) (hB : Base a)
    (hops : AllFrom (fun i o => o.guard = none ∧ ∀ a w, C w → Base a → (∀ e ∈ o.after, Region.binds .any e = true → R e.on (slotOf l.toArray e.on a) w) →
      o.wp P a w (fun a' w' => ∃ v, a' = a.put o.dst v ∧ C w' ∧ T w w' ∧ R i v w') Q) 0 l)
    (hfin : ∀ a w, C w → Base a → (∀ i, i < l.length → R i (slotOf l.toArray i a) w) → Q .normal a w) : (Code.region id l.toArray true).wp P Q a w :=
  wp_region_facts hm (plain_of hpl hsize) hmono hbase.all hC hB
    (fun i o ho a w h1 h2 h3 => wpOp_of ho (hops.all i o ho).1 ((hops.all i o ho).2 a w h1 h2 h3))
    (fun a w h1 h2 h3 => hfin a w h1 h2 fun i hi => h3 i (by simpa using hi))

end
end Go.Proofs.YtjmoecfgpfdncaaGreatDoor

/- A region that draws its order, by facts of the frame and the world that each operation leaves, and that stay true whatever comes after it: no order is looked at; operations without a temporary (stores) too. -/
namespace Go.Proofs.YtjmoecfgpfdncaaGreatDoor

section
variable {P : Program} {ops : Array Oper} {Q : Exit → Act → World → Prop} {md : Region.Mode}

theorem put_slot {a : Act} {d : Option Tmp} {v : Value} {s : Tmp} (h : ∀ x, d = some x → x ≠ s) : (a.put d v).tmps.getD s undef = a.tmps.getD s undef := by
  cases d with
  | none => rfl
  | some x => simp [Act.put, Array.getD_eq_getD_getElem?, Array.getElem?_setIfInBounds_ne (h x rfl)]

theorem wpAny_facts2 {Base : Act → Prop} {C : World → Prop} {T : World → World → Prop} {R : Nat → Act → World → Prop} {S : Nat → List Tmp}
    (hbefore : ∀ (i : Nat) (o : Oper), ops[i]? = some o → ∀ e ∈ o.after, Region.binds md e = true → e.on < i)
    (hslots : ∀ (i j : Nat) (o o' : Oper), ops[i]? = some o → ops[j]? = some o' → j ≠ i → (∀ e ∈ o'.after, Region.binds md e = true → e.on ≠ i) → ∀ d, o.dst = some d → d ∉ S j)
    (hext : ∀ j a a' w w', R j a w → (∀ s ∈ S j, a'.tmps.getD s undef = a.tmps.getD s undef) → T w w' → R j a' w')
    (hbase : ∀ (i : Nat) (o : Oper), ops[i]? = some o → ∀ a v, Base a → Base (a.put o.dst v))
    (hops : ∀ (i : Nat) (o : Oper), ops[i]? = some o → ∀ a w, C w → Base a → (∀ e ∈ o.after, Region.binds md e = true → R e.on a w) →
      wpOp P ops Q i (fun a' w' => ∃ v, a' = a.put o.dst v ∧ C w' ∧ T w w' ∧ R i a' w') a w)
    (hfin : ∀ a w, C w → Base a → (∀ i, i < ops.size → R i a w) → Q .normal a w) :
    ∀ (fuel : Nat) (listed : Array Bool) (a : Act) (w : World), still ops.size listed ≤ fuel → listed.size = ops.size → C w → Base a →
      (∀ i, i < ops.size → listed.getD i true = true → R i a w ∧ ∀ o, ops[i]? = some o → ∀ e ∈ o.after, Region.binds md e = true → listed.getD e.on true = true) → wpAny P md ops Q fuel listed a w := by
  have all : ∀ (listed : Array Bool), listed.size = ops.size → Region.ready md ops listed = [] → ∀ i, i < ops.size → listed.getD i true = true := by
    intro listed hsz hr i
    induction i using Nat.strongRecOn with
    | ind i ih =>
      intro hi
      cases hl : listed.getD i true with
      | true => rfl
      | false =>
        exfalso
        have hm : i ∈ Region.ready md ops listed := by
          rw [mem_ready]
          refine ⟨hl, ops[i], by simp [hi], fun e he hb => ?_⟩
          have hlt := hbefore i ops[i] (by simp [hi]) e he hb
          have h2 := ih e.on hlt (by omega)
          have h3 : e.on < listed.size := by omega
          simp [Array.getD, h3] at h2 ⊢
          exact h2
        rw [hr] at hm; cases hm
  intro fuel
  induction fuel with
  | zero =>
    intro listed a w hst hsz hC hB hR
    have hall := still_zero (Nat.le_zero.1 hst)
    have hr : Region.ready md ops listed = [] := by
      cases h : Region.ready md ops listed with
      | nil => rfl
      | cons i l =>
        have hm : i ∈ Region.ready md ops listed := by rw [h]; exact List.mem_cons_self
        obtain ⟨h1, o, ho, _⟩ := mem_ready.1 hm
        have hi : i < ops.size := (Array.getElem?_eq_some_iff.1 ho).1
        rw [hall i hi] at h1; cases h1
    exact ⟨hr, hfin a w hC hB fun i hi => (hR i hi (hall i hi)).1⟩
  | succ fuel ih =>
    intro listed a w hst hsz hC hB hR
    refine ⟨fun hr => hfin a w hC hB fun i hi => (hR i hi (all listed hsz hr i hi)).1, fun i hi => ?_⟩
    obtain ⟨h1, o, ho, hdeps⟩ := mem_ready.1 hi
    have hin : i < ops.size := (Array.getElem?_eq_some_iff.1 ho).1
    have hdl : ∀ e ∈ o.after, Region.binds md e = true → listed.getD e.on true = true := by
      intro e he hb
      have hlt := hbefore i o ho e he hb
      have h2 := hdeps e he hb
      have h3 : e.on < listed.size := by omega
      simp [Array.getD, h3] at h2 ⊢
      exact h2
    refine wpOp_mono ?_ (hops i o ho a w hC hB fun e he hb => (hR e.on (by have := hbefore i o ho e he hb; omega) (hdl e he hb)).1)
    rintro a' w' ⟨v, rfl, hC', hT, hRv⟩
    have hless := still_less hin h1
    have keep : ∀ k, listed.getD k true = true → (listed.setIfInBounds i true).getD k true = true := by
      intro k hk
      by_cases e : k = i
      · subst e
        have hs : k < listed.size := by omega
        simp [Array.getD, hs]
      · rw [getD_set_ne true (Ne.symm e)]; exact hk
    refine ih _ _ _ (by omega) (by simp [hsz]) hC' (hbase i o ho a v hB) fun j hj hlj => ?_
    by_cases e : j = i
    · subst e
      refine ⟨hRv, fun o' ho' e he hb => keep _ ?_⟩
      obtain rfl : o' = o := Option.some.inj (ho'.symm.trans ho)
      exact hdl e he hb
    · rw [getD_set_ne true (Ne.symm e)] at hlj
      obtain ⟨hRj, hdj⟩ := hR j hj hlj
      refine ⟨hext j a _ w w' hRj (fun s hs => put_slot fun x hx hxs => ?_) hT, fun o' ho' e he hb => keep _ (hdj o' ho' e he hb)⟩
      subst hxs
      refine hslots i j o ops[j] ho (by simp [hj]) e (fun e' he' hb' hne => ?_) x hx hs
      have := hdj ops[j] (by simp [hj]) e' he' hb'
      rw [hne, h1] at this; cases this

/-- the two conditions on the list, as a Bool -/
def planB (l : List Oper) (S : List (List Tmp)) : Bool :=
  (List.range l.length).all fun i => match l[i]? with
    | none => true
    | some o => (o.after.all fun e => !Region.binds .any e || decide (e.on < i)) && (match o.dst with
      | none => true
      | some d => (List.range l.length).all fun j => j == i || (match l[j]? with
        | some o' => (o'.after.any fun e => Region.binds .any e && e.on == i) || !(S.getD j []).contains d
        | none => true))
/-- a drawn region whose operations are written out and unguarded, by facts of frame and world -/
theorem wp_region_list2 {id : Nat} {l : List Oper} {a : Act} {w : World} (S : List (List Tmp)) (Base : Act → Prop) (C : World → Prop) (T : World → World → Prop) (R : Nat → Act → World → Prop) (hm : P.follows .mixedOrders = true)
    (hpl : planB l S = true) (hext : ∀ j a a' w w', R j a w → (∀ s ∈ S.getD j [], a'.tmps.getD s undef = a.tmps.getD s undef) → T w w' → R j a' w')
    (hbase : AllFrom (fun _ o => ∀ a v, Base a → Base (a.put o.dst v)) 0 l) (hC : C { w with drawn := w.drawn + 1 }) (hB : Base a)
    (hops : AllFrom (fun i o => o.guard = none ∧ ∀ a w, C w → Base a → (∀ e ∈ o.after, Region.binds .any e = true → R e.on a w) →
      o.wp P a w (fun a' w' => ∃ v, a' = a.put o.dst v ∧ C w' ∧ T w w' ∧ R i a' w') Q) 0 l)
    (hfin : ∀ a w, C w → Base a → (∀ i, i < l.length → R i a w) → Q .normal a w) : (Code.region id l.toArray true).wp P Q a w := by
  have hp := List.all_eq_true.1 hpl
  refine wp_region_any hm (wpAny_facts2 (S := fun j => S.getD j []) (Base := Base) (C := C) (T := T) (R := R) ?_ ?_ hext hbase.all
    (fun i o ho a w h1 h2 h3 => wpOp_of ho (hops.all i o ho).1 ((hops.all i o ho).2 a w h1 h2 h3))
    (fun a w h1 h2 h3 => hfin a w h1 h2 fun i hi => h3 i (by simpa using hi)) _ _ _ _ ?_ (by simp) hC hB ?_)
  · intro i o ho e he hb
    have ho' : l[i]? = some o := by simpa using ho
    have h1 := hp i (List.mem_range.2 (List.getElem?_eq_some_iff.1 ho').1)
    simp only [ho', Bool.and_eq_true] at h1
    have h2 := (Array.all_eq_true_iff_forall_mem.1 h1.1) e he
    simpa [hb] using h2
  · intro i j o o' ho ho' hne hno d hd
    have hi : l[i]? = some o := by simpa using ho
    have hj : l[j]? = some o' := by simpa using ho'
    have h1 := hp i (List.mem_range.2 (List.getElem?_eq_some_iff.1 hi).1)
    simp only [hi, hd, Bool.and_eq_true] at h1
    have h2 := List.all_eq_true.1 h1.2 j (List.mem_range.2 (List.getElem?_eq_some_iff.1 hj).1)
    simp only [hj, Bool.or_eq_true, beq_iff_eq] at h2
    rcases h2 with h2 | h2 | h2
    · exact absurd h2 hne
    · obtain ⟨k, hk, hb⟩ := Array.any_eq_true.1 h2
      obtain ⟨e, he⟩ : ∃ e, e = o'.after[k] := ⟨_, rfl⟩
      rw [← he] at hb
      have he : e ∈ o'.after := by rw [he]; exact Array.getElem_mem hk
      simp only [Bool.and_eq_true, beq_iff_eq] at hb
      exact absurd hb.2 (hno e he hb.1)
    · intro hm
      simp at h2
      exact h2 hm
  · unfold still
    exact Nat.le_trans (List.length_filter_le _ _) (by simp)
  · intro i hi h
    have hi' : i < l.length := by simpa using hi
    simp [Array.getD] at h
    omega

theorem if_yes {c : Bool} {A B : Prop} (h : c = true) (hA : A) : if c = true then A else B := by rw [if_pos h]; exact hA
theorem if_no {c : Bool} {A B : Prop} (h : c = false) (hB : B) : if c = true then A else B := by rw [h]; exact hB
/-- what an operation leaves: its slot written, the world in the class and gone on, its own fact -/
def Leaves (C : World → Prop) (T : World → World → Prop) (R : Nat → Act → World → Prop) (i : Nat) (o : Oper) (a : Act) (w : World) (a' : Act) (w' : World) : Prop := ∃ v, a' = a.put o.dst v ∧ C w' ∧ T w w' ∧ R i a' w'
/-- .. where operations may be guarded: an operation that is not wanted leaves its slot undefined -/
theorem wp_region_list3 {id : Nat} {l : List Oper} {a : Act} {w : World} (S : List (List Tmp)) (Base : Act → Prop) (C : World → Prop) (T : World → World → Prop) (R : Nat → Act → World → Prop) (hm : P.follows .mixedOrders = true)
    (hpl : planB l S = true) (hext : ∀ j a a' w w', R j a w → (∀ s ∈ S.getD j [], a'.tmps.getD s undef = a.tmps.getD s undef) → T w w' → R j a' w')
    (hbase : AllFrom (fun _ o => ∀ a v, Base a → Base (a.put o.dst v)) 0 l) (hC : C { w with drawn := w.drawn + 1 }) (hB : Base a)
    (hops : AllFrom (fun i o => ∀ a w, C w → Base a → (∀ e ∈ o.after, Region.binds .any e = true → R e.on a w) →
      if Region.wanted o (yielded l.toArray a.tmps) = true then o.wp P a w (Leaves C T R i o a w) Q
      else Leaves C T R i o a w (a.put o.dst undef) w) 0 l)
    (hfin : ∀ a w, C w → Base a → (∀ i, i < l.length → R i a w) → Q .normal a w) : (Code.region id l.toArray true).wp P Q a w := by
  have hp := List.all_eq_true.1 hpl
  refine wp_region_any hm (wpAny_facts2 (S := fun j => S.getD j []) (Base := Base) (C := C) (T := T) (R := R) ?_ ?_ hext hbase.all
    (fun i o ho a w h1 h2 h3 => ?_)
    (fun a w h1 h2 h3 => hfin a w h1 h2 fun i hi => h3 i (by simpa using hi)) _ _ _ _ ?_ (by simp) hC hB ?_)
  · intro i o ho e he hb
    have ho' : l[i]? = some o := by simpa using ho
    have h1 := hp i (List.mem_range.2 (List.getElem?_eq_some_iff.1 ho').1)
    simp only [ho', Bool.and_eq_true] at h1
    have h2 := (Array.all_eq_true_iff_forall_mem.1 h1.1) e he
    simpa [hb] using h2
  · intro i j o o' ho ho' hne hno d hd
    have hi : l[i]? = some o := by simpa using ho
    have hj : l[j]? = some o' := by simpa using ho'
    have h1 := hp i (List.mem_range.2 (List.getElem?_eq_some_iff.1 hi).1)
    simp only [hi, hd, Bool.and_eq_true] at h1
    have h2 := List.all_eq_true.1 h1.2 j (List.mem_range.2 (List.getElem?_eq_some_iff.1 hj).1)
    simp only [hj, Bool.or_eq_true, beq_iff_eq] at h2
    rcases h2 with h2 | h2 | h2
    · exact absurd h2 hne
    · obtain ⟨k, hk, hb⟩ := Array.any_eq_true.1 h2
      obtain ⟨e, he⟩ : ∃ e, e = o'.after[k] := ⟨_, rfl⟩
      rw [← he] at hb
      have he : e ∈ o'.after := by rw [he]; exact Array.getElem_mem hk
      simp only [Bool.and_eq_true, beq_iff_eq] at hb
      exact absurd hb.2 (hno e he hb.1)
    · intro hm
      simp at h2
      exact h2 hm
  · have h4 := hops.all i o ho a w h1 h2 h3
    unfold wpOp
    simp only [ho]
    by_cases hw : Region.wanted o (yielded l.toArray a.tmps) = true
    · rw [if_pos hw] at h4 ⊢
      exact Or.inl h4
    · rw [if_neg hw] at h4 ⊢
      exact h4
  · unfold still
    exact Nat.le_trans (List.length_filter_le _ _) (by simp)
  · intro i hi h
    have hi' : i < l.length := by simpa using hi
    simp [Array.getD] at h
    omega

end
end Go.Proofs.YtjmoecfgpfdncaaGreatDoor

/- Facts of a drawn region's operations: a value in a slot each, or a fact of one's own. -/
namespace Go.Proofs.YtjmoecfgpfdncaaGreatDoor
open Go.RowKit

/-- operation j has left this value in this slot; where the list says nothing: Sp -/
def RV (vs : List (Option (Tmp × Value))) (Sp : Nat → Act → World → Prop) (j : Nat) (a : Act) (w : World) : Prop :=
  match vs[j]? with
  | some (some (d, v)) => a.tmps.getD d undef = v
  | some none => Sp j a w
  | none => True
/-- the slots that a fact looks at -/
def SV (vs : List (Option (Tmp × Value))) (sp : List Tmp) : List (List Tmp) := vs.map fun o => match o with
  | some (d, _) => [d]
  | none => sp
theorem RV.ext {vs : List (Option (Tmp × Value))} {sp : List Tmp} {Sp : Nat → Act → World → Prop} {T : World → World → Prop}
    (hsp : ∀ j a a' w w', Sp j a w → (∀ d ∈ sp, a'.tmps.getD d undef = a.tmps.getD d undef) → T w w' → Sp j a' w') :
    ∀ j a a' w w', RV vs Sp j a w → (∀ s ∈ (SV vs sp).getD j [], a'.tmps.getD s undef = a.tmps.getD s undef) → T w w' → RV vs Sp j a' w' := by
  intro j a a' w w' h hd hT
  unfold RV at *
  rw [List.getD_eq_getElem?_getD] at hd
  cases hj : vs[j]? with
  | none => trivial
  | some o =>
    rw [hj] at h
    cases o with
    | none => exact hsp j a a' w w' h (fun d hm => hd d (by simp [SV, hj]; exact hm)) hT
    | some p => exact (hd p.1 (by simp [SV, hj])).trans h

/-- a world goes on: nothing that was there turns -/
def Goes (w w' : World) : Prop := Below w.heap.size w w'
theorem Goes.refl (w : World) : Goes w w := Below.refl _ _

end Go.Proofs.YtjmoecfgpfdncaaGreatDoor

/- The reference of layer 8, walked: hurts, page, takes, ends, New. -/
namespace Go.Proofs.YtjmoecfgpfdncaaGreatDoor
set_option maxRecDepth 100000
open Go.RowKit

theorem size_cell : (Tryz.prog.info? 30).map (·.size) = some 10 := by kernel_rfl
theorem size_fault : (Tryz.prog.info? 38).map (·.size) = some 4 := by kernel_rfl
theorem rce_hurts (x k a b : Int) (w : World) : Calls Tryz.prog 37 #[.agg (fv x k a b)] w fun e w' => e = .returned (.bool (hurtsB k)) ∧ Below w.heap.size w w' := by
  unfold fv
  go_enter Tryz.func37, Tryz.ntmps37
  go_wp2
  all_goals go_ret
  all_goals exact ⟨ret_bool (by unfold hurtsB; first | rfl | (rw [Bool.eq_iff_iff]; simp; done) | (rw [Bool.eq_iff_iff]; simp; omega)), (Below.refl _ _).alloc (Nat.le_refl _) _⟩

theorem rce_page (p : ByteArray) (x k a b : Int) (w : World) (hs : p.size ≤ 1000) : Calls Tryz.prog 36 #[.string p, .agg (fv x k a b)] w fun e w' => e = .returned (.string (pageT p k a b)) ∧ Below w.heap.size w w' := by
  have HY : Hid (hurtsB k = true → pageT p k a b = hurtT p a b) := fun h => if_pos h
  have HN : Hid (hurtsB k = false → pageT p k a b = p) := fun h => if_neg (by rw [h]; simp)
  obtain ⟨t, ht⟩ : ∃ t, pageT p k a b = t := ⟨_, rfl⟩
  rw [ht] at HY HN ⊢
  clear ht
  have HB := Lib.hid ((Below.refl w.heap.size w).alloc (Nat.le_refl _) (.cells (fv x k a b) 38))
  have HF := Lib.hid (Blk.new w (fv x k a b) 38)
  obtain ⟨w1, hw1⟩ : ∃ w1, w.alloc (.cells (fv x k a b) 38) = w1 := ⟨_, rfl⟩
  rw [hw1] at HB HF
  have HW := Lib.hid hw1
  clear hw1
  go_enter Tryz.func36, Tryz.ntmps36
  go_wp2_with (first | (rw [HW.out]; refine wpList_load_row rfl 38 (.tmp 3) rfl w.heap.size rfl 38 (fv x k a b) (0, 0) _ HF.out Tryz.underlying38 rfl size_fault ?_))
  refine (rce_hurts x k a b _).mono ?_
  rintro e w2 ⟨rfl, hb2⟩
  have HF2 := Lib.hid (HF.out.after hb2)
  have HB2 := Lib.hid (HB.out.trans (hb2.mono HB.out.size))
  clear HF HB HW hb2
  have hc2 : w2.cell? ⟨w.heap.size, 2, none⟩ = some (.int .i64 a) := HF2.out.cell 2
  have hc3 : w2.cell? ⟨w.heap.size, 3, none⟩ = some (.int .i64 b) := HF2.out.cell 3
  obtain ⟨c, hc⟩ : ∃ c, hurtsB k = c := ⟨_, rfl⟩
  rw [hc] at HY HN ⊢
  clear hc
  cases c with
  | true =>
    have HT := Lib.hid (HY.out rfl)
    clear HY HN
    go_wp2_with fail
    refine (rfr_hurt p a b _ hs).mono ?_
    rintro e w3 ⟨rfl, hb3⟩
    have HB3 := Lib.hid (HB2.out.trans (hb3.mono HB2.out.size))
    clear hb3 hc2 hc3
    go_wp2_with fail
    go_ret
    exact ⟨by rw [HT.out]; rfl, HB3.out⟩
  | false =>
    have HT := Lib.hid (HN.out rfl)
    clear hc2 hc3 HY HN
    go_wp2_with fail
    go_ret
    exact ⟨by rw [HT.out]; rfl, HB2.out⟩

theorem rce_takes (s : St) (g c h d : Nat) (p : ByteArray) (w : World) (hw : WfSt s) : Calls Tryz.prog 33 #[.agg (cv s g c h d), .string p] w fun e w' => e = .returned (.bool (takesB s p)) ∧ Below w.heap.size w w' := by
  obtain ⟨y, hy⟩ : ∃ y, s.Y = y := ⟨_, rfl⟩
  have hl := hw.y
  have HB := Lib.hid ((Below.refl w.heap.size w).alloc (Nat.le_refl _) (.cells (cv s g c h d) 30))
  unfold takesB rawOf
  unfold cv at *
  rw [hy] at hl HB ⊢
  obtain ⟨h1, h2, h3⟩ := hl
  clear hy hw
  go_enter Tryz.func33, Tryz.ntmps33
  go_wp2_with fail
  go_ret
  exact ⟨ret_bool (by rw [Bool.eq_iff_iff]; simp; omega), HB.out⟩

end Go.Proofs.YtjmoecfgpfdncaaGreatDoor

/- The reference of layer 8, walked: ends, New. -/
namespace Go.Proofs.YtjmoecfgpfdncaaGreatDoor
set_option maxRecDepth 100000
open Go.RowKit

theorem blk_third (w : World) (A B : Obj) (cs : Array Value) (t : TypeId) : Blk (((w.alloc A).alloc B).alloc (.cells cs t)) (w.heap.size + 1 + 1) cs t := by
  have h := Blk.new ((w.alloc A).alloc B) cs t
  rwa [World.size_alloc, World.size_alloc] at h
theorem rce_ends (s : St) (g c h d : Nat) (x k a b : Int) (w : World) :
    Calls Tryz.prog 34 #[.agg (cv s g c h d), .agg (fv x k a b)] w fun e w' => e = .returned (.tuple #[.agg (cv (endSt s k) g c h d), .int .i64 (endC k)]) ∧ Below w.heap.size w w' := by
  have HB : Hid (∀ A B C, Below w.heap.size w (((w.alloc A).alloc B).alloc C)) := fun A B C => (((Below.refl w.heap.size w).alloc (Nat.le_refl _) _).alloc (by simp) _).alloc (by simp; omega) _
  by_cases h1 : k = 1
  · subst h1
    unfold fv cv endSt
    go_enter Tryz.func34, Tryz.ntmps34
    go_wp2_with fail
    exact bodyPost_ret (results_cell_tmp rfl _ _ (w.heap.size + 1 + 1) 30 _ _ rfl (blk_third w _ _ _ _) Tryz.underlying30 rfl size_cell) rfl ⟨rfl, HB.out _ _ _⟩
  · by_cases h2 : k = 2
    · subst h2
      unfold fv cv endSt
      go_enter Tryz.func34, Tryz.ntmps34
      go_wp2_with fail
      exact bodyPost_ret (results_cell_tmp rfl _ _ (w.heap.size + 1 + 1) 30 _ _ rfl (blk_third w _ _ _ _) Tryz.underlying30 rfl size_cell) rfl ⟨rfl, HB.out _ _ _⟩
    · have he : endSt s k = s ∧ endC k = 0 := by unfold endSt endC; rw [if_neg h1, if_neg h2, if_neg h1, if_neg h2]; exact ⟨rfl, rfl⟩
      rw [he.1, he.2]
      unfold fv cv
      go_enter Tryz.func34, Tryz.ntmps34
      go_wp2_with fail
      exact bodyPost_ret (results_cell_tmp rfl _ _ (w.heap.size + 1 + 1) 30 _ _ rfl (blk_third w _ _ _ _) Tryz.underlying30 rfl size_cell) rfl ⟨rfl, HB.out _ _ _⟩

end Go.Proofs.YtjmoecfgpfdncaaGreatDoor

/- The reference of layer 8, walked: New. -/
namespace Go.Proofs.YtjmoecfgpfdncaaGreatDoor
set_option maxRecDepth 100000
open Go.RowKit

theorem madeCells_one (z : Value) (n j : Nat) (h : j < n) : (madeCells #[z] n)[j]? = some z := by
  simp [madeCells, h, Nat.mod_one]
theorem rd_new (w : World) (z : Value) (n : Nat) (e : TypeId) : RdSl (w.alloc (.cells (madeCells #[z] n) e)) w.heap.size n (List.replicate n z) := by
  refine ⟨by simp, fun j hj => ?_⟩
  simp only [List.length_replicate] at hj
  rw [(Blk.new w (madeCells #[z] n) e).cell j, madeCells_one z n j hj, List.getElem?_replicate_of_lt hj]
theorem rd_second (w : World) (A B : Obj) (z : Value) (n : Nat) (e : TypeId) : 0 < n → RdSl (((w.alloc A).alloc (.cells (madeCells #[z] n) e)).alloc B).drew (w.heap.size + 1) n (List.replicate n z) := by
  intro hn
  have h := rd_new (w.alloc A) z n e
  rw [World.size_alloc] at h
  have hl := h.lt (by simpa using hn)
  exact RdSl.keep (RdSl.keep h (heap_alloc_old _ _ hl)) rfl
theorem rd_third (w : World) (A B : Obj) (z : Value) (n : Nat) (e : TypeId) : RdSl (((w.alloc A).alloc B).alloc (.cells (madeCells #[z] n) e)).drew (w.heap.size + 1 + 1) n (List.replicate n z) := by
  have h := rd_new ((w.alloc A).alloc B) z n e
  rw [World.size_alloc, World.size_alloc] at h
  exact RdSl.keep h rfl
theorem blk_first (w : World) (A B : Obj) (cs : Array Value) (t : TypeId) : Blk (((w.alloc (.cells cs t)).alloc A).alloc B).drew w.heap.size cs t := (((Blk.new w cs t).alloc A).alloc B).drew
theorem below_three (w : World) (A B C : Obj) : Below w.heap.size w (((w.alloc A).alloc B).alloc C).drew := Below.drew ((((Below.refl w.heap.size w).alloc (Nat.le_refl _) _).alloc (by simp) _).alloc (by simp; omega) _)
theorem new_strs (l y : Nat) : strs (newSt l y).ps = List.replicate (3 * l) (.string ByteArray.empty) := by simp [strs, newSt]
theorem new_bls (l y : Nat) : bls (newSt l y).hs = List.replicate (3 * l) (.bool false) := by simp [bls, newSt]
theorem infoStr : (Tryz.prog.info? 9).map (fun i => (i.zero, i.size, i.bytes)) = some (some (.string ByteArray.empty), 1, 16) := by kernel_rfl
theorem infoBool : (Tryz.prog.info? 4).map (fun i => (i.zero, i.size, i.bytes)) = some (some (.bool false), 1, 1) := by kernel_rfl

def NewT (l y : Int) (w : World) (e : Ending) (w' : World) : Prop :=
  (NewOk l y → ∃ g h c d, e = .returned (.tuple #[.agg (cv (newSt l.toNat y.toNat) g c h d), .int .i64 0]) ∧ RAt w' (newSt l.toNat y.toNat) g c h d ∧ w.heap.size ≤ g ∧ w.heap.size ≤ h)
  ∧ (¬ NewOk l y → e = .returned (.tuple #[.agg zv, .int .i64 60])) ∧ Below w.heap.size w w'

theorem rce_new (l y : Int) (w : World) : Calls Tryz.prog 6 #[.int .i64 l, .int .i64 y] w (NewT l y w) := by
  by_cases hok : NewOk l y
  · obtain ⟨L, rfl⟩ : ∃ L : Nat, l = L := ⟨l.toNat, by unfold NewOk LinesOk at hok; omega⟩
    obtain ⟨Y, rfl⟩ : ∃ Y : Nat, y = Y := ⟨y.toNat, by unfold NewOk at hok; omega⟩
    have hD : decide (0 ≤ (Y : Int) ∧ LenOk (Y : Int).toNat) = true := decide_eq_true hok.2
    have HD := Lib.hid hD
    have h1 := hok.1.1
    have h2 := hok.1.2
    have HOK := Lib.hid hok
    have hmk1 := run_make_row' (P := Tryz.prog) 27 9 (.string ByteArray.empty) 16 Tryz.underlying27 infoStr rfl .i64 .i64 (3 * L) (by omega) (by omega)
    have hmk2 := run_make_row' (P := Tryz.prog) 28 4 (.bool false) 1 Tryz.underlying28 infoBool rfl .i64 .i64 (3 * L) (by omega) (by omega)
    have e3 : ((3 * L : Nat) : Int) = 3 * (L : Int) := by omega
    rw [e3] at hmk1 hmk2
    clear e3
    clear hok hD
    go_enter Tryz.func6, Tryz.ntmps6
    go_wp2_with fail
    refine (rfr_may Y _).mono ?_
    rintro e w2 ⟨rfl, rfl⟩
    rw [HD.out]
    go_wp2_with fail
    go_region
    all_goals go_wp2_with fail
    · refine bodyPost_ret (results_cell_tmp rfl _ _ w.heap.size 30 _ _ rfl (blk_first w _ _ _ _) Tryz.underlying30 rfl size_cell) rfl ⟨fun _ => ⟨_, _, _, _, rfl, ⟨?_, ?_⟩, ?_, ?_⟩, fun h => absurd HOK.out h, below_three w _ _ _⟩
      · rw [new_strs]; exact rd_second w _ _ _ _ _ (by omega)
      · rw [new_bls]; exact rd_third w _ _ _ _ _
      · omega
      · omega
    · refine bodyPost_ret (results_cell_tmp rfl _ _ w.heap.size 30 _ _ rfl (blk_first w _ _ _ _) Tryz.underlying30 rfl size_cell) rfl ⟨fun _ => ⟨_, _, _, _, rfl, ⟨?_, ?_⟩, ?_, ?_⟩, fun h => absurd HOK.out h, below_three w _ _ _⟩
      · rw [new_strs]; exact rd_third w _ _ _ _ _
      · rw [new_bls]; exact rd_second w _ _ _ _ _ (by omega)
      · omega
      · omega
  · have HNO := Lib.hid hok
    have hc : l < 1 ∨ (¬ l < 1 ∧ 64 < l) ∨ (¬ l < 1 ∧ ¬ 64 < l) := by omega
    have HD : Hid (¬ l < 1 → ¬ 64 < l → decide (0 ≤ y ∧ LenOk y.toNat) = false) := fun h1 h2 => decide_eq_false (fun h => HNO.out ⟨by unfold LinesOk; omega, h⟩)
    clear hok
    rcases hc with hc | ⟨hc, hc2⟩ | ⟨hc, hc2⟩
    · go_enter Tryz.func6, Tryz.ntmps6
      go_wp2_with fail
      exact bodyPost_ret (results_cell_tmp rfl _ _ w.heap.size 30 _ _ rfl (Blk.new w _ _) Tryz.underlying30 rfl size_cell) rfl ⟨fun h => absurd h HNO.out, fun _ => rfl, (Below.refl _ _).alloc (Nat.le_refl _) _⟩
    · go_enter Tryz.func6, Tryz.ntmps6
      go_wp2_with fail
      exact bodyPost_ret (results_cell_tmp rfl _ _ w.heap.size 30 _ _ rfl (Blk.new w _ _) Tryz.underlying30 rfl size_cell) rfl ⟨fun h => absurd h HNO.out, fun _ => rfl, (Below.refl _ _).alloc (Nat.le_refl _) _⟩
    · have HD2 := Lib.hid (HD.out hc hc2)
      clear HD
      go_enter Tryz.func6, Tryz.ntmps6
      go_wp2_with fail
      refine (rfr_may y _).mono ?_
      rintro e w2 ⟨rfl, rfl⟩
      rw [HD2.out]
      go_wp2_with fail
      exact bodyPost_ret (results_cell_tmp rfl _ _ w.heap.size 30 _ _ rfl (Blk.new w _ _) Tryz.underlying30 rfl size_cell) rfl ⟨fun h => absurd h HNO.out, fun _ => rfl, (Below.refl _ _).alloc (Nat.le_refl _) _⟩

end Go.Proofs.YtjmoecfgpfdncaaGreatDoor

/- The reference of layer 8, walked: put. -/
namespace Go.Proofs.YtjmoecfgpfdncaaGreatDoor
set_option maxRecDepth 100000
open Go.RowKit

/-- two rows of two types lie in two blocks -/
theorem own_apart {w : World} {B1 B2 s1 s2 n1 n2 : Nat} {e1 e2 : TypeId} {v1 v2 : Value} {x1 x2 : List Value} (h1 : w.ownsRow B1 e1 s1 v1 n1 x1) (h2 : w.ownsRow B2 e2 s2 v2 n2 x2) (hne : e1 ≠ e2) : v1.ownBlock = none ∨ v1.ownBlock ≠ v2.ownBlock := by
  cases hb : v1.ownBlock with
  | none => exact Or.inl rfl
  | some b =>
    refine Or.inr fun hc => ?_
    obtain ⟨c1, f1, g1⟩ := Lib.ownsRow_kind h1 b hb
    obtain ⟨c2, f2, g2⟩ := Lib.ownsRow_kind h2 b hc.symm
    rw [g1] at g2
    simp at g2
    exact hne g2.2.1
theorem rd_own {w : World} {B n g cap : Nat} {e : TypeId} {xs : List Value} (h : w.ownsRow B e 1 (.slice (some ⟨g, 0, none⟩) n cap) n xs) (hx : xs.length = n) : RdSl w g cap xs ∧ B ≤ g := by
  have hlt := h.lt g rfl
  refine ⟨⟨?_, fun j hj => ?_⟩, hlt.1⟩
  · rcases h.2 with ⟨hn, _⟩ | ⟨g', cap', cur, hv, _, _, hle, _⟩
    · cases hn
    · cases hv; omega
  · exact h.cellAt j (by omega)
def putPs (s : St) (i : Nat) (p : ByteArray) (k : Nat) : List ByteArray := (s.ps.set i p).take k
def putHs (s : St) (i : Nat) (b : Bool) (k : Nat) : List Bool := (s.hs.set i b).take k
theorem putPs_succ {s : St} (hw : WfSt s) (i k : Nat) (p : ByteArray) (hk : k < 3 * s.L) : strs (putPs s i p (k + 1)) = strs (putPs s i p k) ++ [.string (if k = i then p else pageAt s k)] := by
  have h1 : k < (s.ps.set i p).length := by simp [hw.psl]; omega
  unfold putPs strs
  rw [List.take_add_one, List.map_append, List.getElem?_eq_getElem h1]
  simp only [Option.toList, List.map_cons, List.map_nil]
  rw [List.getElem_set]
  congr 2
  have h2 : k < s.ps.length := by rw [hw.psl]; exact hk
  split
  · rw [if_pos (by omega)]
  · rw [if_neg (by omega)]; simp [pageAt, h2]
theorem putHs_succ {s : St} (hw : WfSt s) (i k : Nat) (b : Bool) (hk : k < 3 * s.L) : bls (putHs s i b (k + 1)) = bls (putHs s i b k) ++ [.bool (if k = i then b else s.hs.getD k false)] := by
  have h1 : k < (s.hs.set i b).length := by simp [hw.hsl]; omega
  unfold putHs bls
  rw [List.take_add_one, List.map_append, List.getElem?_eq_getElem h1]
  simp only [Option.toList, List.map_cons, List.map_nil]
  rw [List.getElem_set]
  congr 2
  have h2 : k < s.hs.length := by rw [hw.hsl]; exact hk
  split
  · rw [if_pos (by omega)]
  · rw [if_neg (by omega)]; simp [h2]
theorem putPs_all {s : St} (hw : WfSt s) (i : Nat) (p : ByteArray) (b : Bool) : putPs s i p (3 * s.L) = (putSt s i p b).ps := List.take_of_length_le (by simp [hw.psl])
theorem putHs_all {s : St} (hw : WfSt s) (i : Nat) (p : ByteArray) (b : Bool) : putHs s i b (3 * s.L) = (putSt s i p b).hs := List.take_of_length_le (by simp [hw.hsl])
theorem putPs_len {s : St} (hw : WfSt s) (i k : Nat) (p : ByteArray) (hk : k ≤ 3 * s.L) : (strs (putPs s i p k)).length = k := by simp [strs, putPs, hw.psl]; omega
theorem putHs_len {s : St} (hw : WfSt s) (i k : Nat) (b : Bool) (hk : k ≤ 3 * s.L) : (bls (putHs s i b k)).length = k := by simp [bls, putHs, hw.hsl]; omega

theorem setRow_heap_ne (w : World) (b g : Nat) (cs : Array Value) (h : b ≠ g) : (w.setRow b cs).heap[g]? = w.heap[g]? := by
  simp only [World.setRow, Array.getElem?_modify]
  rw [if_neg h]
/-- what a call leaves that answers a cell -/
def CellT (s : St) (w : World) (e : Ending) (w' : World) : Prop := (∃ g c h d, e = .returned (.agg (cv s g c h d)) ∧ RAt w' s g c h d ∧ w.heap.size ≤ g ∧ w.heap.size ≤ h) ∧ Below w.heap.size w w'

set_option maxHeartbeats 1000000 in
theorem rce_put (s : St) (g c h d i : Nat) (p : ByteArray) (b : Bool) (w : World) (hw : WfSt s) (hr : RAt w s g c h d) :
    Calls Tryz.prog 35 #[.agg (cv s g c h d), .int .i64 (i : Nat), .string p, .bool b] w (CellT (putSt s i p b) w) := by
  obtain ⟨w2, hw2⟩ : ∃ w2, (w.alloc (.cells (cv s g c h d) 30)).alloc (.cells zv 30) = w2 := ⟨_, rfl⟩
  have hs2 : w2.heap.size = w.heap.size + 2 := by rw [← hw2, World.size_alloc, World.size_alloc]
  have hcb : Blk w2 w.heap.size (cv s g c h d) 30 := by rw [← hw2]; exact (Blk.new w _ _).alloc _
  have hzb : Blk w2 (w.heap.size + 1) zv 30 := by
    rw [← hw2]
    have h := Blk.new (w.alloc (.cells (cv s g c h d) 30)) zv 30
    rwa [World.size_alloc] at h
  have hbw : Below w.heap.size w w2 := by rw [← hw2]; exact ((Below.refl w.heap.size w).alloc (Nat.le_refl _) _).alloc (by simp) _
  have hlt := hr.lt hw
  have hr2 := hr.after hw hbw
  obtain ⟨n, hn⟩ : ∃ n, 3 * s.L = n := ⟨_, rfl⟩
  have hn3 : 3 ≤ n ∧ n ≤ 192 := by have := hw.l1; have := hw.l64; omega
  have HS : Hid (∀ k, k < n → strs (putPs s i p (k + 1)) = strs (putPs s i p k) ++ [.string (if k = i then p else pageAt s k)]) := fun k hk => putPs_succ hw i k p (by omega)
  have HS2 : Hid (∀ k, k < n → bls (putHs s i b (k + 1)) = bls (putHs s i b k) ++ [.bool (if k = i then b else s.hs.getD k false)]) := fun k hk => putHs_succ hw i k b (by omega)
  have HP : Hid (∀ k, k < n → ∀ wr, Below (w.heap.size + 2) w2 wr → wr.cell? ⟨g, k, none⟩ = some (.string (pageAt s k)) ∧ wr.cell? ⟨h, k, none⟩ = some (.bool (s.hs.getD k false))) := fun k hk wr hb =>
    ⟨(hr2.below hb (by omega) (by omega)).page hw k (by omega), (hr2.below hb (by omega) (by omega)).mark hw k (by omega)⟩
  have HK : Hid (∀ wr, Below (w.heap.size + 2) w2 wr → Blk wr w.heap.size (cv s g c h d) 30 ∧ Blk wr (w.heap.size + 1) zv 30) := fun wr hb => ⟨hcb.below hb (by omega), hzb.below hb (by omega)⟩
  have HWF := Lib.hid hw
  have HN := Lib.hid hn
  have HBW := Lib.hid hbw
  have HW := Lib.hid hw2
  have HS2' := Lib.hid hs2
  obtain ⟨i1, hi1, hz1, hz2, hz3⟩ := info_parts infoStr
  obtain ⟨i2, hi2, hy1, hy2, hy3⟩ := info_parts infoBool
  clear hr2 hcb hzb hbw hlt hw hr hw2 hs2
  go_enter Tryz.func35, Tryz.ntmps35
  go_wp2_with fail
  go_loopw [9, 10, 11] (fun vp vh iv wr => ∃ k : Nat, k ≤ n ∧ iv = .int .i64 k ∧ wr.ownsRow (w.heap.size + 2) 9 1 vp k (strs (putPs s i p k)) ∧ wr.ownsRow (w.heap.size + 2) 4 1 vh k (bls (putHs s i b k)) ∧ Below (w.heap.size + 2) w2 wr) (fun _ _ iv _ => n - (intOf iv).toNat)
  case atStart =>
    refine ⟨0, Nat.zero_le _, rfl, ⟨rfl, Or.inl ⟨rfl, rfl⟩⟩, ⟨rfl, Or.inl ⟨rfl, rfl⟩⟩, ?_⟩
    rw [← HW.out]
    exact Below.refl _ _
  case round =>
    obtain ⟨k, hk, rfl, hop, hoh, hb⟩ := hrel
    have hkb := HK.out wr hb
    have hc8 : wr.cell? ⟨w.heap.size, 8, none⟩ = some (.slice (some ⟨g, 0, none⟩) n c) := by rw [hkb.1.cell 8, ← HN.out]; rfl
    have hc9 : wr.cell? ⟨w.heap.size, 9, none⟩ = some (.slice (some ⟨h, 0, none⟩) n d) := by rw [hkb.1.cell 9, ← HN.out]; rfl
    have HB := Lib.hid hb
    have hsz : w.heap.size + 2 ≤ wr.heap.size := by have h1 := hb.size; have h2 := HS2'.out; omega
    clear hb
    by_cases hlt : k < n
    · clear hkb
      have hpp := HP.out k hlt wr HB.out
      obtain ⟨hpk, hhk⟩ := hpp
      have hsp := HS.out k hlt
      have hsh := HS2.out k hlt
      by_cases he : k = i
      · subst he
        rw [if_pos rfl] at hsp hsh
        have HSP := Lib.hid hsp
        have HSH := Lib.hid hsh
        clear hsp hsh
        go_wp2_with (at_builtin; refine wpList_append_own _ rfl _ _ 27 rfl (w.heap.size + 2) 9 i1 (.string ByteArray.empty) 1 16 Tryz.underlying27 hi1 hz1 hz2 hz3 rfl (by decide) _ _ _ rfl (hop.alloc _) ⟨wr.heap.size, 0, none⟩ 1 1 [.string p] rfl rfl ?c1 ?c2 ?c3 ?c4 ?c5 ?_)
        case c1 => exact cell_one_new _ _ _
        case c2 => intro u hu; simp at hu; subst hu; rfl
        case c3 => unfold maxLen; omega
        case c4 => omega
        case c5 => simp; omega
        intro v1 w3 hown1 hgrow1 _
        have hoh1 := World.ownsRow.kept (hoh.alloc _) hgrow1 (own_apart hoh hop (by decide))
        have HB1 := Lib.hid (HB.out.trans (own_below hop hsz hgrow1))
        have hsz1 : w.heap.size + 2 ≤ w3.heap.size := by have h1 := HB1.out.size; have h2 := HS2'.out; omega
        have hd9 : w3.cell? ⟨w.heap.size, 9, none⟩ = some (.slice (some ⟨h, 0, none⟩) n d) := by rw [(HK.out w3 HB1.out).1.cell 9, ← HN.out]; rfl
        have hdk := (HP.out k hlt w3 HB1.out).2
        clear hop hoh hgrow1 HB hc8 hc9 hpk hhk hsz
        go_wp2_with (at_builtin; refine wpList_append_own _ rfl _ _ 28 rfl (w.heap.size + 2) 4 i2 (.bool false) 1 1 Tryz.underlying28 hi2 hy1 hy2 hy3 rfl (by decide) _ _ _ rfl (hoh1.alloc _) ⟨w3.heap.size, 0, none⟩ 1 1 [.bool b] rfl rfl ?c1 ?c2 ?c3 ?c4 ?c5 ?_)
        case c1 => exact cell_one_new _ _ _
        case c2 => intro u hu; simp at hu; subst hu; rfl
        case c3 => unfold maxLen; omega
        case c4 => omega
        case c5 => simp; omega
        intro v2 w4 hown2 hgrow2 _
        have hop2 := World.ownsRow.kept (hown1.alloc _) hgrow2 (own_apart hown1 hoh1 (by decide))
        have HB2 := Lib.hid (HB1.out.trans (own_below hoh1 hsz1 hgrow2))
        have HO1 := Lib.hid hop2
        have HO2 := Lib.hid hown2
        clear hop2 hown2 hown1 hoh1 hgrow2 hd9 hdk HB1
        go_wp2_with fail
        go_roundw
        case rel => exact ⟨k + 1, by omega, by go_num, by rw [HSP.out]; exact HO1.out, by rw [HSH.out]; exact HO2.out, HB2.out⟩
        case measure => simp [intOf]; omega
      · have hei : ¬ (k : Int) = (i : Int) := by omega
        rw [if_neg he] at hsp hsh
        have HSP := Lib.hid hsp
        have HSH := Lib.hid hsh
        clear hsp hsh
        go_wp2_with (at_builtin; refine wpList_append_own _ rfl _ _ 27 rfl (w.heap.size + 2) 9 i1 (.string ByteArray.empty) 1 16 Tryz.underlying27 hi1 hz1 hz2 hz3 rfl (by decide) _ _ _ rfl (hop.alloc _) ⟨wr.heap.size, 0, none⟩ 1 1 [.string (pageAt s k)] rfl rfl ?c1 ?c2 ?c3 ?c4 ?c5 ?_)
        case c1 => exact cell_one_new _ _ _
        case c2 => intro u hu; simp at hu; subst hu; rfl
        case c3 => unfold maxLen; omega
        case c4 => omega
        case c5 => simp; omega
        intro v1 w3 hown1 hgrow1 _
        have hoh1 := World.ownsRow.kept (hoh.alloc _) hgrow1 (own_apart hoh hop (by decide))
        have HB1 := Lib.hid (HB.out.trans (own_below hop hsz hgrow1))
        have hsz1 : w.heap.size + 2 ≤ w3.heap.size := by have h1 := HB1.out.size; have h2 := HS2'.out; omega
        have hd9 : w3.cell? ⟨w.heap.size, 9, none⟩ = some (.slice (some ⟨h, 0, none⟩) n d) := by rw [(HK.out w3 HB1.out).1.cell 9, ← HN.out]; rfl
        have hdk := (HP.out k hlt w3 HB1.out).2
        clear hop hoh hgrow1 HB hc8 hc9 hpk hhk hsz
        go_wp2_with (at_builtin; refine wpList_append_own _ rfl _ _ 28 rfl (w.heap.size + 2) 4 i2 (.bool false) 1 1 Tryz.underlying28 hi2 hy1 hy2 hy3 rfl (by decide) _ _ _ rfl (hoh1.alloc _) ⟨w3.heap.size, 0, none⟩ 1 1 [.bool (s.hs.getD k false)] rfl rfl ?c1 ?c2 ?c3 ?c4 ?c5 ?_)
        case c1 => exact cell_one_new _ _ _
        case c2 => intro u hu; simp at hu; subst hu; rfl
        case c3 => unfold maxLen; omega
        case c4 => omega
        case c5 => simp; omega
        intro v2 w4 hown2 hgrow2 _
        have hop2 := World.ownsRow.kept (hown1.alloc _) hgrow2 (own_apart hown1 hoh1 (by decide))
        have HB2 := Lib.hid (HB1.out.trans (own_below hoh1 hsz1 hgrow2))
        have HO1 := Lib.hid hop2
        have HO2 := Lib.hid hown2
        clear hop2 hown2 hown1 hoh1 hgrow2 hd9 hdk HB1
        go_wp2_with fail
        go_roundw
        case rel => exact ⟨k + 1, by omega, by go_num, by rw [HSP.out]; exact HO1.out, by rw [HSH.out]; exact HO2.out, HB2.out⟩
        case measure => simp [intOf]; omega
    · obtain rfl : k = n := by omega
      obtain ⟨g', c', rfl⟩ := Joins.ownsRow_form hop (by omega)
      obtain ⟨h', d', rfl⟩ := Joins.ownsRow_form hoh (by omega)
      have hg' := rd_own hop (by rw [putPs_len HWF.out i k p (by rw [HN.out]; exact Nat.le_refl _)])
      have hh' := rd_own hoh (by rw [putHs_len HWF.out i k b (by rw [HN.out]; exact Nat.le_refl _)])
      have hps : putPs s i p k = (putSt s i p b).ps := by rw [← HN.out]; exact putPs_all HWF.out i p b
      have hhs : putHs s i b k = (putSt s i p b).hs := by rw [← HN.out]; exact putHs_all HWF.out i p b
      rw [hps] at hg'
      rw [hhs] at hh'
      have HG := Lib.hid hg'
      have HH := Lib.hid hh'
      have hf8 := hkb.1.free 8
      have h1 : Blk (wr.setCell ⟨w.heap.size, 8, none⟩ (.slice (some ⟨g', 0, none⟩) k c')) w.heap.size _ 30 := hkb.1.set 8 _ rfl
      have hf9 := h1.free 9
      have hc9' : (wr.setCell ⟨w.heap.size, 8, none⟩ (.slice (some ⟨g', 0, none⟩) k c')).cell? ⟨w.heap.size, 9, none⟩ = some (.slice (some ⟨h, 0, none⟩) (3 * s.L) d) := by rw [h1.cell 9]; rfl
      have h2 : Blk ((wr.setCell ⟨w.heap.size, 8, none⟩ (.slice (some ⟨g', 0, none⟩) k c')).setCell ⟨w.heap.size, 9, none⟩ (.slice (some ⟨h', 0, none⟩) k d')) w.heap.size (cv (putSt s i p b) g' c' h' d') 30 := h1.set 9 _ (by rw [← HN.out]; rfl)
      have h3 : Blk ((wr.setCell ⟨w.heap.size, 8, none⟩ (.slice (some ⟨g', 0, none⟩) k c')).setCell ⟨w.heap.size, 9, none⟩ (.slice (some ⟨h', 0, none⟩) k d')) (w.heap.size + 1) zv 30 := (hkb.2.set_other (by omega) _ _).set_other (by omega) _ _
      have HC2 := Lib.hid h2
      have HC3 := Lib.hid h3
      clear hop hoh hps hhs hg' hh' h1 h2 h3 hkb hi1 hi2 hz1 hz2 hz3 hy1 hy2 hy3
      go_wp2_with (first
        | (refine wpList_load_row rfl 30 (.tmp 4) rfl w.heap.size rfl 30 (cv (putSt s i p b) g' c' h' d') (0, 0) _ HC2.out Tryz.underlying30 rfl size_cell ?_)
        | (refine wpList_store_row rfl 30 (.tmp 8) (.tmp 57) rfl (w.heap.size + 1) (cv (putSt s i p b) g' c' h' d') rfl rfl 30 zv HC3.out size_cell rfl (cv_one _ _ _ _ _) ?_))
      refine bodyPost_ret (results_cell_row (P := Tryz.prog) rfl _ _ (w.heap.size + 1) 30 (cv (putSt s i p b) g' c' h' d') (0, 0) _ rfl (HC3.out.put _) Tryz.underlying30 rfl size_cell) rfl ⟨⟨g', c', h', d', rfl, ⟨?_, ?_⟩, ?_, ?_⟩, ?_⟩
      · exact HG.out.1.keep ((setRow_heap_ne _ _ _ _ (by have := HG.out.2; omega)).trans ((Below.heap_setCell _ _ _ _ (by have := HG.out.2; simp; omega)).trans (Below.heap_setCell _ _ _ _ (by have := HG.out.2; simp; omega))))
      · exact HH.out.1.keep ((setRow_heap_ne _ _ _ _ (by have := HH.out.2; omega)).trans ((Below.heap_setCell _ _ _ _ (by have := HH.out.2; simp; omega)).trans (Below.heap_setCell _ _ _ _ (by have := HH.out.2; simp; omega))))
      · have := HG.out.2; omega
      · have := HH.out.2; omega
      · exact below_put (by omega) _ (((HBW.out.trans (HB.out.mono (by omega))).setCell (Nat.le_refl _) _).setCell (Nat.le_refl _) _)

end Go.Proofs.YtjmoecfgpfdncaaGreatDoor

/- Cells in a drawn region: what a slot, or a block, holds, while calls and one store of a cell come in any order. -/
namespace Go.Proofs.YtjmoecfgpfdncaaGreatDoor
set_option maxRecDepth 100000
open Go.RowKit

/-- the slots that a fact looks at, those of a fact of one's own by the operation's number -/
def SV2 (vs : List (Option (Tmp × Value))) (f : Nat → List Tmp) : List (List Tmp) := vs.mapIdx fun j o => match o with
  | some (d, _) => [d]
  | none => f j
theorem RV.ext2 {vs : List (Option (Tmp × Value))} {f : Nat → List Tmp} {Sp : Nat → Act → World → Prop} {T : World → World → Prop}
    (hsp : ∀ j a a' w w', Sp j a w → (∀ d ∈ f j, a'.tmps.getD d undef = a.tmps.getD d undef) → T w w' → Sp j a' w') :
    ∀ j a a' w w', RV vs Sp j a w → (∀ s ∈ (SV2 vs f).getD j [], a'.tmps.getD s undef = a.tmps.getD s undef) → T w w' → RV vs Sp j a' w' := by
  intro j a a' w w' h hd hT
  unfold RV at *
  rw [List.getD_eq_getElem?_getD] at hd
  cases hj : vs[j]? with
  | none => trivial
  | some o =>
    rw [hj] at h
    cases o with
    | none => exact hsp j a a' w w' h (fun d hm => hd d (by simp [SV2, hj]; exact hm)) hT
    | some p => exact (hd p.1 (by simp [SV2, hj])).trans h
/-- slot x holds the reference's value of s, its slices in blocks from base on -/
def SlotC (x : Tmp) (s : St) (base : Nat) (a : Act) (w : World) : Prop := ∃ g c h d, a.tmps.getD x undef = .agg (cv s g c h d) ∧ RAt w s g c h d ∧ base ≤ g ∧ base ≤ h
def SlotP (x : Tmp) (s : St) (ec : Int) (base : Nat) (a : Act) (w : World) : Prop := ∃ g c h d, a.tmps.getD x undef = .tuple #[.agg (cv s g c h d), .int .i64 ec] ∧ RAt w s g c h d ∧ base ≤ g ∧ base ≤ h
/-- block R holds it -/
def GoodC (R : Nat) (s : St) (base : Nat) (w : World) : Prop := ∃ g c h d, Blk w R (cv s g c h d) 30 ∧ RAt w s g c h d ∧ base ≤ g ∧ base ≤ h
def TG (R : Nat) (s : St) (base : Nat) (w w' : World) : Prop := (∀ b, b < w.heap.size → b ≠ R → w'.heap[b]? = w.heap[b]?) ∧ (GoodC R s base w → GoodC R s base w')
theorem TG.refl (R : Nat) (s : St) (base : Nat) (w : World) : TG R s base w w := ⟨fun _ _ _ => rfl, id⟩
theorem GoodC.after {R base : Nat} {s : St} {w w' : World} (h : GoodC R s base w) (hw : WfSt s) (hb : Below w.heap.size w w') : GoodC R s base w' := by
  obtain ⟨g, c, h', d, h1, h2, h3, h4⟩ := h
  exact ⟨g, c, h', d, h1.after hb, h2.after hw hb, h3, h4⟩
theorem TG.call {R base : Nat} {s : St} {w w' : World} (hw : WfSt s) (hb : Below w.heap.size w w') : TG R s base w w' := ⟨fun b hlt _ => hb.block b hlt, fun h => h.after hw hb⟩
theorem RAt.tg {R base : Nat} {s0 s : St} {w w' : World} {g c h d : Nat} (hr : RAt w s g c h d) (hw : WfSt s) (hg : base ≤ g) (hh : base ≤ h) (hR : R < base) (hT : TG R s0 base w w') : RAt w' s g c h d :=
  hr.keep (hT.1 g (hr.lt hw).1 (by omega)) (hT.1 h (hr.lt hw).2 (by omega))
theorem SlotC.ext {x : Tmp} {s s0 : St} {base R : Nat} {a a' : Act} {w w' : World} (hw : WfSt s) (hR : R < base) (h : SlotC x s base a w) (hx : a'.tmps.getD x undef = a.tmps.getD x undef) (hT : TG R s0 base w w') : SlotC x s base a' w' := by
  obtain ⟨g, c, h', d, h1, h2, h3, h4⟩ := h
  exact ⟨g, c, h', d, hx.trans h1, h2.tg hw h3 h4 hR hT, h3, h4⟩
theorem SlotP.ext {x : Tmp} {s s0 : St} {ec : Int} {base R : Nat} {a a' : Act} {w w' : World} (hw : WfSt s) (hR : R < base) (h : SlotP x s ec base a w) (hx : a'.tmps.getD x undef = a.tmps.getD x undef) (hT : TG R s0 base w w') : SlotP x s ec base a' w' := by
  obtain ⟨g, c, h', d, h1, h2, h3, h4⟩ := h
  exact ⟨g, c, h', d, hx.trans h1, h2.tg hw h3 h4 hR hT, h3, h4⟩
theorem goodC_put {R base : Nat} {s : St} {w : World} {cs : Array Value} {g c h d : Nat} (hb : Blk w R cs 30) (hr : RAt w s g c h d) (hg : base ≤ g) (hh : base ≤ h) (hR : R < base) : GoodC R s base (w.setRow R (cv s g c h d)) :=
  ⟨g, c, h, d, hb.put _, hr.keep (setRow_heap_ne _ _ _ _ (by omega)) (setRow_heap_ne _ _ _ _ (by omega)), hg, hh⟩
theorem TG.put {R base : Nat} {s : St} {w : World} (cs : Array Value) (h : GoodC R s base (w.setRow R cs)) : TG R s base w (w.setRow R cs) := ⟨fun b _ hne => setRow_heap_ne _ _ _ _ (by omega), fun _ => h⟩

/-- the world while such a region runs: the cell that came in lies in block B, how it goes in F, the answer in R -/
structure CE (w0 : World) (B F R base : Nat) (s : St) (g c h d : Nat) (x k a b : Int) (w : World) : Prop where
  cell : Blk w B (cv s g c h d) 30
  how : Blk w F (fv x k a b) 38
  ans : ∃ cs : Array Value, cs.size = 10 ∧ Blk w R cs 30
  rd : RAt w s g c h d
  low : Below w0.heap.size w0 w
  top : base ≤ w.heap.size
theorem CE.call {w0 w w' : World} {B F R base : Nat} {s : St} {g c h d : Nat} {x k a b : Int} (h0 : CE w0 B F R base s g c h d x k a b w) (hw : WfSt s) (hb : Below w.heap.size w w') : CE w0 B F R base s g c h d x k a b w' := by
  obtain ⟨h1, h2, ⟨cs, h3, h4⟩, h5, h6, h7⟩ := h0
  exact ⟨h1.after hb, h2.after hb, ⟨cs, h3, h4.after hb⟩, h5.after hw hb, h6.trans (hb.mono h6.size), Nat.le_trans h7 hb.size⟩
theorem CE.put {w0 w : World} {B F R base : Nat} {s : St} {g c h d : Nat} {x k a b : Int} (h0 : CE w0 B F R base s g c h d x k a b w) (cs : Array Value) (hs : cs.size = 10) (hB : B ≠ R) (hF : F ≠ R) (hg : g ≠ R) (hh : h ≠ R) (hl : w0.heap.size ≤ R) : CE w0 B F R base s g c h d x k a b (w.setRow R cs) := by
  obtain ⟨h1, h2, ⟨cs0, h3, h4⟩, h5, h6, h7⟩ := h0
  exact ⟨h1.put_other (by omega) _, h2.put_other (by omega) _, ⟨cs, hs, h4.put cs⟩, h5.keep (setRow_heap_ne _ _ _ _ (by omega)) (setRow_heap_ne _ _ _ _ (by omega)), below_put hl _ h6, by rw [size_setRow]; exact h7⟩
theorem RAt.same {w : World} {s t : St} {g c h d : Nat} (hr : RAt w s g c h d) (hp : t.ps = s.ps) (hh : t.hs = s.hs) : RAt w t g c h d := by
  obtain ⟨h1, h2⟩ := hr
  exact ⟨by rw [hp]; exact h1, by rw [hh]; exact h2⟩
theorem endSt_ps (s : St) (k : Int) : (endSt s k).ps = s.ps ∧ (endSt s k).hs = s.hs := by
  unfold endSt
  split
  · exact ⟨rfl, rfl⟩
  · split <;> exact ⟨rfl, rfl⟩
theorem RAt_end {w : World} {s : St} {g c h d : Nat} (hr : RAt w s g c h d) (k : Int) : RAt w (endSt s k) g c h d := hr.same (endSt_ps s k).1 (endSt_ps s k).2
theorem stepSt_cv (s : St) (m : Int) (g c h d : Nat) : ((cv s g c h d).setIfInBounds 2 (.int .i64 m)).setIfInBounds 3 (.int .i64 ((s.done : Int) + 1)) = cv (stepSt s m) g c h d := by
  unfold cv stepSt
  simp
/-- what a call leaves that answers a cell and how it went: the slices are the ones that came in, or new ones -/
def PairT (s : St) (ec : Int) (g0 h0 : Nat) (w : World) (e : Ending) (w' : World) : Prop :=
  (∃ g c h d, e = .returned (.tuple #[.agg (cv s g c h d), .int .i64 ec]) ∧ RAt w' s g c h d ∧ ((g = g0 ∧ h = h0) ∨ (w.heap.size ≤ g ∧ w.heap.size ≤ h))) ∧ Below w.heap.size w w'

end Go.Proofs.YtjmoecfgpfdncaaGreatDoor
