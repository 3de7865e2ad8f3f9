/- Texts of one claim, merged: Blk, OrR1, OrR2, OrR3, OrR4, Inv, Inv2, Reg, CeR1, CeR2, CeR3, CeR4, CeG, CeR5, CeR6, CeR7, CeR8, Inv3. -/
import Derived.Test.YtjmoecfgpfdncaaDoorM1
import Derived.Deep.WholeRow
import Derived.Test.YtjmoecfgpfdncaaDoorM2
import Derived.Deep.QuietTactic
import Derived.BigQuiet
import Derived.Orders
import Derived.Deep.OwnRows
import Derived.Lib.OwnKind
import Derived.Lib.SmallJoins

/- A block of the call's own, whole: what a world holds in it, behind new blocks, calls, stores. -/
namespace Go.Proofs.YtjmoecfgpfdncaaDoor
open Go.RowKit

/-- block b holds these cells, and may be written -/
def Blk (w : World) (b : Nat) (cs : Array Value) (t : TypeId) : Prop := w.heap[b]? = some (.cells cs t (0, 0))
theorem Blk.lt {w : World} {b : Nat} {cs : Array Value} {t : TypeId} (h : Blk w b cs t) : b < w.heap.size := (Array.getElem?_eq_some_iff.1 h).1
theorem Blk.new (w : World) (cs : Array Value) (t : TypeId) : Blk (w.alloc (.cells cs t)) w.heap.size cs t := heap_alloc_new _ _
theorem Blk.alloc {w : World} {b : Nat} {cs : Array Value} {t : TypeId} (h : Blk w b cs t) (o : Obj) : Blk (w.alloc o) b cs t := by
  have hb := h.lt
  unfold Blk at *
  (first | rw [heap_alloc_old _ _ hb] | rw [heap_alloc_old _ _ _ hb]); exact h
theorem Blk.drew {w : World} {b : Nat} {cs : Array Value} {t : TypeId} (h : Blk w b cs t) : Blk w.drew b cs t := h
theorem Blk.drewN {w : World} {b n : Nat} {cs : Array Value} {t : TypeId} (h : Blk w b cs t) : Blk (w.drewN n) b cs t := h
theorem Blk.below {w w' : World} {b B : Nat} {cs : Array Value} {t : TypeId} (h : Blk w b cs t) (hb : Below B w w') (hB : b < B) : Blk w' b cs t := by
  unfold Blk at *
  rw [hb.block b hB]; exact h
theorem Blk.after {w w' : World} {b : Nat} {cs : Array Value} {t : TypeId} (h : Blk w b cs t) (hb : Below w.heap.size w w') : Blk w' b cs t := h.below hb h.lt
theorem Blk.cell {w : World} {b : Nat} {cs : Array Value} {t : TypeId} (h : Blk w b cs t) (i : Nat) : w.cell? ⟨b, i, none⟩ = cs[i]? := by
  unfold Blk at h; simp [World.cell?, h]
theorem Blk.free {w : World} {b : Nat} {cs : Array Value} {t : TypeId} (h : Blk w b cs t) (i : Nat) : w.frozen? ⟨b, i, none⟩ = false := by
  unfold Blk at h; simp [World.frozen?, h]
theorem Blk.set {w : World} {b : Nat} {cs ds : Array Value} {t : TypeId} (h : Blk w b cs t) (i : Nat) (v : Value) (he : cs.setIfInBounds i v = ds) : Blk (w.setCell ⟨b, i, none⟩ v) b ds t := by
  unfold Blk at *
  rw [heap_setCell_same _ _ _ _ _ _ h, he]
theorem Blk.set_other {w : World} {b c : Nat} {cs : Array Value} {t : TypeId} (h : Blk w b cs t) (hne : c ≠ b) (i : Nat) (v : Value) : Blk (w.setCell ⟨c, i, none⟩ v) b cs t := by
  unfold Blk at *
  rw [Below.heap_setCell _ _ _ _ (Ne.symm hne)]; exact h
theorem Blk.put {w : World} {b : Nat} {cs : Array Value} {t : TypeId} (h : Blk w b cs t) (ds : Array Value) : Blk (w.setRow b ds) b ds t := by
  unfold Blk at *
  exact setRow_heap w b cs ds _ _ h
theorem Blk.put_other {w : World} {b c : Nat} {cs : Array Value} {t : TypeId} (h : Blk w b cs t) (hne : c ≠ b) (ds : Array Value) : Blk (w.setRow c ds) b cs t := by
  unfold Blk at *
  simp only [World.setRow, Array.getElem?_modify]
  rw [if_neg hne]; exact h
theorem below_put {B g : Nat} {a w : World} (hB : B ≤ g) (cs : Array Value) (h : Below B a w) : Below B a (w.setRow g cs) := by
  have hk : ∀ k, k < B → (w.setRow g cs).heap[k]? = w.heap[k]? := by
    intro k hk
    simp only [World.setRow, Array.getElem?_modify]
    rw [if_neg (by omega)]
  obtain ⟨h1, h2, h3, h4, h5⟩ := h
  exact ⟨h1, h2, h3, by rw [size_setRow]; exact h4, fun k hk2 => by rw [hk k hk2]; exact h5 k hk2⟩

/-- a whole row out of a variable, at an operation that is guarded -/
theorem wpList_load_row_if {P : Program} {ops : Array Oper} {rest : List Oper} {o : Oper} {a : Act} {w : World} {Q : Exit → Act → World → Prop} (hw : Region.wanted o (yielded ops a.tmps) = true) (ty : TypeId) (x : Operand) (ho : o.op = .load ty x)
    (g : Nat) (hx : a.eval x = .pointer (some ⟨g, 0, none⟩)) (t : TypeId) (cs : Array Value) (fr : Nat × Nat) (d : TypeDesc) (hg : w.heap[g]? = some (.cells cs t fr))
    (hu : P.underlying ty = some d) (hd : (match d with | .struct _ | .array _ _ => true | _ => false) = true) (hi : (P.info? ty).map (·.size) = some cs.size)
    (h : wpList P ops Q rest (a.put o.dst (.agg cs)) w) : wpList P ops Q (o :: rest) a w := by
  unfold wpList
  rw [if_pos hw]
  exact Or.inl (wp_load_row ty x ho g hx t cs fr d hg hu hd hi h)

/-- what a function of two results gives, the first in a block of its own -/
theorem results_cell_tmp {P : Program} {fn : Func} {p q : Tmp} {ty : TypeId} (h : fn.results = #[.cell p ty, .tmp q]) (tmps : Array Value) (w : World) (g : Nat) (t : TypeId) (cs : Array Value) (d : TypeDesc)
    (hp : tmps.getD p undef = .pointer (some ⟨g, 0, none⟩)) (hg : Blk w g cs t)
    (hu : P.underlying ty = some d) (hd : (match d with | .struct _ | .array _ _ => true | _ => false) = true) (hi : (P.info? ty).map (·.size) = some cs.size) :
    (results fn tmps).run P w = .ok (.tuple #[.agg cs, tmps.getD q undef]) w := by
  have hp' : tmps[p]?.getD undef = .pointer (some ⟨g, 0, none⟩) := by simpa using hp
  simp [results, h, hp', asAddr, run_loadVar_row w g t ty cs (0, 0) d hg hu hd hi]

end Go.Proofs.YtjmoecfgpfdncaaDoor

/- The reference of layer 7, walked: Steps. -/
namespace Go.Proofs.YtjmoecfgpfdncaaDoor
set_option maxRecDepth 100000
open Go.RowKit

theorem infoStep : (Tryd.prog.info? 72).map (fun i => (i.zero, i.size, i.bytes)) = some (some (.agg #[.int .i64 0, .bool false]), 2, 16) := by kernel_rfl
/-- a slice of steps of the call's own -/
def OwnSteps (w : World) (B : Nat) (v : Value) (l : List (Nat × Bool)) : Prop := w.ownsRow B 72 2 v l.length (cellsS l)

theorem cells_new (w : World) (l : List Value) (t : TypeId) : ∀ j u, l[j]? = some u → (w.alloc (.cells l.toArray t)).cell? ((⟨w.heap.size, 0, none⟩ : Addr).add j) = some u := by
  intro j u h
  cases j with
  | zero => simp [Addr.add, h]
  | succ j => simp [Addr.add, h]
theorem own_below2 {wr w1 : World} {B n : Nat} {v : Value} {xs : List Value} {E : TypeId} {o : Obj} (hown : wr.ownsRow B E 2 v n xs) (hB : B ≤ wr.heap.size) (hgrow : (wr.alloc o).grownBy w1 v.ownBlock) : Below B wr w1 := by
  refine Below.grown (row := v.ownBlock) ((Below.refl _ _).alloc hB _) hgrow (by simp; omega) ?_
  intro g hg
  exact (hown.lt g hg).1
theorem refTo_succ (k : Nat) (h : 1 ≤ k) : refTo (k + 1) = refTo k ++ [(k, false), (k - 1, true)] := by
  obtain ⟨j, rfl⟩ : ∃ j, k = j + 1 := ⟨k - 1, by omega⟩
  rfl
theorem own_more {w1 : World} {B k : Nat} {v' : Value} (hk : 1 ≤ k) (h : w1.ownsRow B 72 2 v' (2 * k - 1 + 2) (cellsS (refTo k) ++ [.int .i64 k, .bool false, .int .i64 ((k : Int) - 1), .bool true])) : OwnSteps w1 B v' (refTo (k + 1)) := by
  unfold OwnSteps
  rw [refTo_length (k + 1) (by omega), refTo_succ k hk, cellsS_append, show 2 * (k + 1) - 1 = 2 * k - 1 + 2 by omega]
  have e : cellsS [(k, false), (k - 1, true)] = [.int .i64 k, .bool false, .int .i64 ((k : Int) - 1), .bool true] := by
    simp [cellsS]
    omega
  rw [e]
  exact h
theorem own_last {w1 : World} {B k : Nat} {v' : Value} (hk : 1 ≤ k) (h : w1.ownsRow B 72 2 v' (2 * k - 1 + 1) (cellsS (refTo k) ++ [.int .i64 ((k : Int) - 1), .bool true])) : OwnSteps w1 B v' (refL k) := by
  unfold OwnSteps
  rw [refL_length k hk]
  unfold refL
  rw [cellsS_append, show 2 * k = 2 * k - 1 + 1 by omega]
  have e : cellsS [(k - 1, true)] = [.int .i64 ((k : Int) - 1), .bool true] := by
    simp [cellsS]
    omega
  rw [e]
  exact h

end Go.Proofs.YtjmoecfgpfdncaaDoor

/- The reference of layer 7, walked: At. -/
namespace Go.Proofs.YtjmoecfgpfdncaaDoor
set_option maxRecDepth 100000
open Go.RowKit

/-- what the cells of a slice of steps hold -/
theorem OwnSteps.at {w : World} {B : Nat} {v : Value} {l : List (Nat × Bool)} (h : OwnSteps w B v l) (h1 : 1 ≤ l.length) : ∃ g cap, v = .slice (some ⟨g, 0, none⟩) l.length cap ∧ l.length ≤ cap ∧
    ∀ k, k < l.length → w.cell? ⟨g, k * 2, none⟩ = some (.int .i64 ((l.getD k (0, false)).1 : Nat)) ∧ w.cell? ⟨g, k * 2 + 1, none⟩ = some (.bool (l.getD k (0, false)).2) := by
  have hown := h
  unfold OwnSteps at hown
  rcases hown.2 with ⟨_, h0⟩ | ⟨g, cap, cur, rfl, _, _, hc, _, _, _⟩
  · omega
  · refine ⟨g, cap, rfl, hc, fun k hk => ⟨?_, ?_⟩⟩
    · have := hown.cells (g := g) rfl (2 * k) _ (cellsS_line l k hk)
      rw [Nat.mul_comm 2 k] at this
      cases k with
      | zero => simpa [Addr.add] using this
      | succ k => simpa [Addr.add] using this
    · have := hown.cells (g := g) rfl (2 * k + 1) _ (cellsS_fine l k hk)
      rw [Nat.mul_comm 2 k] at this
      simpa [Addr.add] using this

theorem size_step : (Tryd.prog.info? 72).map (·.size) = some 2 := by kernel_rfl

theorem sv_one (l : Int) (f : Bool) : (sv l f).all (·.oneCell') = true := by
  rw [Array.all_eq_true_iff_forall_mem]
  intro v hv
  simp [sv] at hv
  rcases hv with rfl | rfl <;> rfl

end Go.Proofs.YtjmoecfgpfdncaaDoor

/- The reference of layer 7, walked: Place, After. -/
namespace Go.Proofs.YtjmoecfgpfdncaaDoor
set_option maxRecDepth 100000
open Go.RowKit

theorem drewN_below2 (B : Nat) (w : World) (n : Nat) : Below B w (w.drewN n) := ⟨rfl, rfl, rfl, Nat.le_refl _, fun _ _ => rfl⟩
/-- two steps compared -/
def sameS (l : Int) (f : Bool) (l' : Int) (f' : Bool) : Bool := l == l' && f == f'
theorem run_equalIn_bool (n : Nat) (f f' : Bool) (w : World) : Sem.run Tryd.prog (Op.equalIn (n + 1) 4 (.bool f) (.bool f')) w = .ok (f == f') w := by
  simp [Op.equalIn, run_underlying Tryd.underlying4]
theorem eql_step (l l' : Int) (f f' : Bool) (w : World) : Sem.run Tryd.prog (binOp .eql 72 (.agg #[.int .i64 l, .bool f]) (.agg #[.int .i64 l', .bool f'])) w = .ok (.bool (sameS l f l' f')) w := by
  rw [run_eql_struct, run_equalIn_agg _ _ _ _ _ (by kernel_rfl) (by kernel_rfl)]
  simp only [Program.fieldsOf, Tryd.underlying72]
  simp [Op.eqFields, part, isAgg, run_underlying Tryd.underlying3, run_underlying Tryd.underlying4, run_equalIn_int _ _ _ _ _ _ _ Tryd.underlying3, run_equalIn_bool, sameS]
  by_cases h1 : l = l' <;> cases f <;> cases f' <;> simp [h1]
theorem sameS_iff (l l' : Int) (f f' : Bool) : sameS l f l' f' = true ↔ l = l' ∧ f = f' := by simp [sameS]

end Go.Proofs.YtjmoecfgpfdncaaDoor

/- The reference of layer 7, walked: After. -/
namespace Go.Proofs.YtjmoecfgpfdncaaDoor
set_option maxRecDepth 100000
open Go.RowKit

end Go.Proofs.YtjmoecfgpfdncaaDoor

/- A region that draws its order, by a fact of each operation's value that stays true whatever comes after it: no order is looked at. -/
namespace Go.Proofs.YtjmoecfgpfdncaaDoor

section
variable {P : Program} {ops : Array Oper} {Q : Exit → Act → World → Prop} {md : Region.Mode}

/-- what operation number i has left in its temporary -/
def slotOf (ops : Array Oper) (i : Nat) (a : Act) : Value := match (ops[i]?).bind (·.dst) with
  | some d => a.tmps.getD d undef
  | none => undef
/-- how many are still to come -/
def still (n : Nat) (listed : Array Bool) : Nat := ((List.range n).filter fun i => !listed.getD i true).length

theorem still_zero {n : Nat} {listed : Array Bool} (h : still n listed = 0) : ∀ i, i < n → listed.getD i true = true := by
  intro i hi
  have h2 : (List.range n).filter (fun i => !listed.getD i true) = [] := List.eq_nil_of_length_eq_zero h
  have h3 := List.filter_eq_nil_iff.1 h2 i (List.mem_range.2 hi)
  simpa using h3
theorem filter_less {α : Type} (l : List α) (p q : α → Bool) (hpq : ∀ x, x ∈ l → q x = true → p x = true) (x : α) (hx : x ∈ l) (hp : p x = true) (hq : q x = false) : (l.filter q).length < (l.filter p).length := by
  induction l with
  | nil => cases hx
  | cons y l ih =>
    have hle : (l.filter q).length ≤ (l.filter p).length := by
      clear ih hx
      induction l with
      | nil => exact Nat.le_refl _
      | cons z l ih2 =>
        have hz := hpq z (by simp)
        have ih3 := ih2 (fun x hx => hpq x (by simp at hx ⊢; rcases hx with h | h <;> simp [h]))
        cases hq' : q z with
        | true => simp [hq', hz hq']; exact ih3
        | false => cases hp' : p z <;> simp [hq', hp'] <;> omega
    rcases List.mem_cons.1 hx with rfl | hx
    · simp [hp, hq]; omega
    · have ih4 := ih (fun z hz => hpq z (List.mem_cons_of_mem _ hz)) hx
      cases hq' : q y with
      | true => simp [hq', hpq y (by simp) hq']; exact ih4
      | false => cases hp' : p y <;> simp [hq', hp'] <;> omega
theorem still_less {n i : Nat} {listed : Array Bool} (hi : i < n) (h : listed.getD i true = false) : still n (listed.setIfInBounds i true) < still n listed := by
  unfold still
  refine filter_less _ _ _ ?_ i (List.mem_range.2 hi) (by simp [h]) ?_
  · intro x _ hx
    by_cases e : i = x
    · subst e
      have hs : i < listed.size := by
        rcases Nat.lt_or_ge i listed.size with h' | h'
        · exact h'
        · simp [Array.getD, Nat.not_lt.2 h'] at h
      simp [Array.getD, hs] at hx
    · simp [getD_set_ne true e] at hx ⊢; exact hx
  · have hs : i < listed.size := by
      rcases Nat.lt_or_ge i listed.size with h' | h'
      · exact h'
      · simp [Array.getD, Nat.not_lt.2 h'] at h
    simp [Array.getD, hs]


theorem slotOf_same {i : Nat} {o : Oper} {d : Tmp} {a : Act} {v : Value} (ho : ops[i]? = some o) (hd : o.dst = some d) (hs : d < a.tmps.size) : slotOf ops i (a.put o.dst v) = v := by
  unfold slotOf
  simp [ho, hd, Act.put, Array.getD, hs]
theorem slotOf_other {i j : Nat} {o o' : Oper} {d d' : Tmp} {a : Act} {v : Value} (_ho : ops[i]? = some o) (hd : o.dst = some d) (ho' : ops[j]? = some o') (hd' : o'.dst = some d') (hne : d ≠ d') : slotOf ops j (a.put o.dst v) = slotOf ops j a := by
  unfold slotOf
  simp only [ho', hd', Option.bind_some, hd, Act.put]
  simp [Array.getD_eq_getD_getElem?, Array.getElem?_setIfInBounds_ne hne]

/-- every operation waits for earlier ones alone, and has a temporary of its own -/
structure Plain (ops : Array Oper) (Base : Act → Prop) : Prop where
  before : ∀ (i : Nat) (o : Oper), ops[i]? = some o → ∀ e ∈ o.after, e.on < i
  own : ∀ (i : Nat) (o : Oper), ops[i]? = some o → ∃ d, o.dst = some d ∧ (∀ a, Base a → d < a.tmps.size) ∧ ∀ (j : Nat) (o' : Oper), ops[j]? = some o' → j ≠ i → ∃ d', o'.dst = some d' ∧ d ≠ d'

/-- WHATEVER ORDER IS PICKED: each operation, in whatever world of the class and whatever frame in which the facts of those that it waits for hold, leaves a value of which its own fact holds; facts stay true as the world goes on. -/
theorem wpAny_facts {Base : Act → Prop} {C : World → Prop} {T : World → World → Prop} {R : Nat → Value → World → Prop} (hpl : Plain ops Base)
    (hmono : ∀ i v w w', R i v w → T w w' → R i v w') (hbase : ∀ (i : Nat) (o : Oper), ops[i]? = some o → ∀ a v, Base a → Base (a.put o.dst v))
    (hops : ∀ (i : Nat) (o : Oper), ops[i]? = some o → ∀ a w, C w → Base a → (∀ e ∈ o.after, Region.binds md e = true → R e.on (slotOf ops e.on a) w) →
      wpOp P ops Q i (fun a' w' => ∃ v, a' = a.put o.dst v ∧ C w' ∧ T w w' ∧ R i v w') a w)
    (hfin : ∀ a w, C w → Base a → (∀ i, i < ops.size → R i (slotOf ops i a) w) → Q .normal a w) :
    ∀ (fuel : Nat) (listed : Array Bool) (a : Act) (w : World), still ops.size listed ≤ fuel → listed.size = ops.size → C w → Base a →
      (∀ i, i < ops.size → listed.getD i true = true → R i (slotOf ops i a) w) → wpAny P md ops Q fuel listed a w := by
  have all : ∀ (listed : Array Bool), listed.size = ops.size → Region.ready md ops listed = [] → ∀ i, i < ops.size → listed.getD i true = true := by
    intro listed hsz hr i
    induction i using Nat.strongRecOn with
    | ind i ih =>
      intro hi
      cases hl : listed.getD i true with
      | true => rfl
      | false =>
        exfalso
        have hm : i ∈ Region.ready md ops listed := by
          rw [mem_ready]
          refine ⟨hl, ops[i], by simp [hi], fun e he _ => ?_⟩
          have hlt := hpl.before i ops[i] (by simp [hi]) e he
          have h2 := ih e.on hlt (by omega)
          have h3 : e.on < listed.size := by omega
          simp [Array.getD, h3] at h2 ⊢
          exact h2
        rw [hr] at hm; cases hm
  intro fuel
  induction fuel with
  | zero =>
    intro listed a w hst hsz hC hB hR
    have hall := still_zero (Nat.le_zero.1 hst)
    have hr : Region.ready md ops listed = [] := by
      cases h : Region.ready md ops listed with
      | nil => rfl
      | cons i l =>
        have hm : i ∈ Region.ready md ops listed := by rw [h]; exact List.mem_cons_self
        obtain ⟨h1, o, ho, _⟩ := mem_ready.1 hm
        have hi : i < ops.size := (Array.getElem?_eq_some_iff.1 ho).1
        rw [hall i hi] at h1; cases h1
    exact ⟨hr, hfin a w hC hB fun i hi => hR i hi (hall i hi)⟩
  | succ fuel ih =>
    intro listed a w hst hsz hC hB hR
    refine ⟨fun hr => hfin a w hC hB fun i hi => hR i hi (all listed hsz hr i hi), fun i hi => ?_⟩
    obtain ⟨h1, o, ho, hdeps⟩ := mem_ready.1 hi
    have hin : i < ops.size := (Array.getElem?_eq_some_iff.1 ho).1
    refine wpOp_mono ?_ (hops i o ho a w hC hB fun e he hb => ?_)
    · rintro a' w' ⟨v, rfl, hC', hT, hRv⟩
      obtain ⟨d, hd, hds, hdo⟩ := hpl.own i o ho
      have hless := still_less hin h1
      refine ih _ _ _ (by omega) (by simp [hsz]) hC' (hbase i o ho a v hB) fun j hj hlj => ?_
      by_cases e : j = i
      · subst e
        rw [slotOf_same ho hd (hds a hB)]; exact hRv
      · obtain ⟨d', hd', hne⟩ := hdo j ops[j] (by simp [hj]) e
        rw [slotOf_other ho hd (by simp [hj]) hd' hne]
        rw [getD_set_ne true (Ne.symm e)] at hlj
        exact hmono j _ _ _ (hR j hj hlj) hT
    · have hlt := hpl.before i o ho e he
      have h2 := hdeps e he hb
      refine hR e.on (by omega) ?_
      have h3 : e.on < listed.size := by omega
      simp [Array.getD, h3] at h2 ⊢
      exact h2

/-- the same, of a region -/
theorem wp_region_facts {id : Nat} {a : Act} {w : World} {Base : Act → Prop} {C : World → Prop} {T : World → World → Prop} {R : Nat → Value → World → Prop} (hm : P.follows .mixedOrders = true) (hpl : Plain ops Base)
    (hmono : ∀ i v w w', R i v w → T w w' → R i v w') (hbase : ∀ (i : Nat) (o : Oper), ops[i]? = some o → ∀ a v, Base a → Base (a.put o.dst v))
    (hC : C { w with drawn := w.drawn + 1 }) (hB : Base a)
    (hops : ∀ (i : Nat) (o : Oper), ops[i]? = some o → ∀ a w, C w → Base a → (∀ e ∈ o.after, Region.binds .any e = true → R e.on (slotOf ops e.on a) w) →
      wpOp P ops Q i (fun a' w' => ∃ v, a' = a.put o.dst v ∧ C w' ∧ T w w' ∧ R i v w') a w)
    (hfin : ∀ a w, C w → Base a → (∀ i, i < ops.size → R i (slotOf ops i a) w) → Q .normal a w) : (Code.region id ops true).wp P Q a w := by
  refine wp_region_any hm (wpAny_facts hpl hmono hbase hops hfin _ _ _ _ ?_ (by simp) hC hB ?_)
  · unfold still
    exact Nat.le_trans (List.length_filter_le _ _) (by simp)
  · intro i hi h
    simp [Array.getD, hi] at h

theorem wpOp_of {i : Nat} {o : Oper} {a : Act} {w : World} {K : Act → World → Prop} (ho : ops[i]? = some o) (hg : o.guard = none) (h : o.wp P a w K Q) : wpOp P ops Q i K a w := by
  unfold wpOp
  simp only [ho, Region.wanted, hg, if_true]
  exact Or.inl h
/-- a fact of each operation, one by one -/
def AllFrom (X : Nat → Oper → Prop) : Nat → List Oper → Prop
  | _, [] => True
  | k, o :: l => X k o ∧ AllFrom X (k + 1) l
theorem AllFrom.at {X : Nat → Oper → Prop} : ∀ {l : List Oper} {k : Nat}, AllFrom X k l → ∀ j o, l[j]? = some o → X (k + j) o
  | [], _, _, j, o, h => by simp at h
  | p :: l, k, h, 0, o, ho => by simp at ho; subst ho; exact h.1
  | p :: l, k, h, j + 1, o, ho => by
    have := AllFrom.at h.2 j o (by simpa using ho)
    rwa [show k + 1 + j = k + (j + 1) by omega] at this
theorem AllFrom.all {X : Nat → Oper → Prop} {l : List Oper} (h : AllFrom X 0 l) : ∀ (i : Nat) (o : Oper), l.toArray[i]? = some o → X i o := fun i o ho => by
  have := AllFrom.at h i o (by simpa using ho)
  rwa [Nat.zero_add] at this
/-- the temporaries of a region's operations -/
def dsts (l : List Oper) : List Tmp := l.filterMap (·.dst)
/-- Plain, as a Bool -/
def plainB (l : List Oper) (n : Nat) : Bool :=
  (List.range l.length).all fun i => match l[i]? with
    | none => true
    | some o => (o.after.all fun e => decide (e.on < i)) && (match o.dst with
      | none => false
      | some d => decide (d < n) && (List.range l.length).all fun j => j == i || (match (l[j]?).bind (·.dst) with | some d' => d != d' | none => false))
theorem plain_of {l : List Oper} {n : Nat} {Base : Act → Prop} (h : plainB l n = true) (hB : ∀ a, Base a → a.tmps.size = n) : Plain l.toArray Base := by
  have key : ∀ (i : Nat) (o : Oper), l[i]? = some o → (∀ e ∈ o.after, e.on < i) ∧ ∃ d, o.dst = some d ∧ d < n ∧ ∀ (j : Nat) (o' : Oper), l[j]? = some o' → j ≠ i → ∃ d', o'.dst = some d' ∧ d ≠ d' := by
    intro i o ho
    have hi : i < l.length := (List.getElem?_eq_some_iff.1 ho).1
    have h1 := List.all_eq_true.1 h i (List.mem_range.2 hi)
    simp only [ho, Bool.and_eq_true] at h1
    refine ⟨fun e he => ?_, ?_⟩
    · have h2 := (Array.all_eq_true_iff_forall_mem.1 h1.1) e he
      simpa using h2
    · cases hd : o.dst with
      | none => rw [hd] at h1; simp at h1
      | some d =>
        rw [hd] at h1
        simp only [Bool.and_eq_true, decide_eq_true_eq] at h1
        refine ⟨d, rfl, h1.2.1, fun j o' ho' hne => ?_⟩
        have hj : j < l.length := (List.getElem?_eq_some_iff.1 ho').1
        have h3 := List.all_eq_true.1 h1.2.2 j (List.mem_range.2 hj)
        simp only [ho', Option.bind_some] at h3
        cases hd' : o'.dst with
        | none => rw [hd'] at h3; simp at h3; exact absurd h3 hne
        | some d' =>
          rw [hd'] at h3
          simp at h3
          exact ⟨d', rfl, h3.resolve_left hne⟩
  refine ⟨fun i o ho => (key i o (by simpa using ho)).1, fun i o ho => ?_⟩
  obtain ⟨_, d, hd, hn, hj⟩ := key i o (by simpa using ho)
  exact ⟨d, hd, fun a ha => by rw [hB a ha]; exact hn, fun j o' ho' hne => hj j o' (by simpa using ho') hne⟩

/-- a drawn region whose operations are written out and unguarded, by facts -/
theorem wp_region_list {id : Nat} {l : List Oper} {a : Act} {w : World} (n : Nat) (Base : Act → Prop) (C : World → Prop) (T : World → World → Prop) (R : Nat → Value → World → Prop) (hm : P.follows .mixedOrders = true)
    (hpl : plainB l n = true) (hsize : ∀ a, Base a → a.tmps.size = n) (hmono : ∀ i v w w', R i v w → T w w' → R i v w')
    (hbase : AllFrom (fun _ o => ∀ a v, Base a → Base (a.put o.dst v)) 0 l) (hC : C { w with drawn := w.drawn + 1 }) (hB : Base a)
    (hops : AllFrom (fun i o => o.guard = none ∧ ∀ a w, C w → Base a → (∀ e ∈ o.after, Region.binds .any e = true → R e.on (slotOf l.toArray e.on a) w) →
      o.wp P a w (fun a' w' => ∃ v, a' = a.put o.dst v ∧ C w' ∧ T w w' ∧ R i v w') Q) 0 l)
    (hfin : ∀ a w, C w → Base a → (∀ i, i < l.length → R i (slotOf l.toArray i a) w) → Q .normal a w) : (Code.region id l.toArray true).wp P Q a w :=
  wp_region_facts hm (plain_of hpl hsize) hmono hbase.all hC hB
    (fun i o ho a w h1 h2 h3 => wpOp_of ho (hops.all i o ho).1 ((hops.all i o ho).2 a w h1 h2 h3))
    (fun a w h1 h2 h3 => hfin a w h1 h2 fun i hi => h3 i (by simpa using hi))

end
end Go.Proofs.YtjmoecfgpfdncaaDoor

/- A region that draws its order, by facts of the frame and the world that each operation leaves, and that stay true whatever comes after it: no order is looked at; operations without a temporary (stores) too. -/
namespace Go.Proofs.YtjmoecfgpfdncaaDoor

section
variable {P : Program} {ops : Array Oper} {Q : Exit → Act → World → Prop} {md : Region.Mode}

theorem put_slot {a : Act} {d : Option Tmp} {v : Value} {s : Tmp} (h : ∀ x, d = some x → x ≠ s) : (a.put d v).tmps.getD s undef = a.tmps.getD s undef := by
  cases d with
  | none => rfl
  | some x => simp [Act.put, Array.getD_eq_getD_getElem?, Array.getElem?_setIfInBounds_ne (h x rfl)]

theorem wpAny_facts2 {Base : Act → Prop} {C : World → Prop} {T : World → World → Prop} {R : Nat → Act → World → Prop} {S : Nat → List Tmp}
    (hbefore : ∀ (i : Nat) (o : Oper), ops[i]? = some o → ∀ e ∈ o.after, Region.binds md e = true → e.on < i)
    (hslots : ∀ (i j : Nat) (o o' : Oper), ops[i]? = some o → ops[j]? = some o' → j ≠ i → (∀ e ∈ o'.after, Region.binds md e = true → e.on ≠ i) → ∀ d, o.dst = some d → d ∉ S j)
    (hext : ∀ j a a' w w', R j a w → (∀ s ∈ S j, a'.tmps.getD s undef = a.tmps.getD s undef) → T w w' → R j a' w')
    (hbase : ∀ (i : Nat) (o : Oper), ops[i]? = some o → ∀ a v, Base a → Base (a.put o.dst v))
    (hops : ∀ (i : Nat) (o : Oper), ops[i]? = some o → ∀ a w, C w → Base a → (∀ e ∈ o.after, Region.binds md e = true → R e.on a w) →
      wpOp P ops Q i (fun a' w' => ∃ v, a' = a.put o.dst v ∧ C w' ∧ T w w' ∧ R i a' w') a w)
    (hfin : ∀ a w, C w → Base a → (∀ i, i < ops.size → R i a w) → Q .normal a w) :
    ∀ (fuel : Nat) (listed : Array Bool) (a : Act) (w : World), still ops.size listed ≤ fuel → listed.size = ops.size → C w → Base a →
      (∀ i, i < ops.size → listed.getD i true = true → R i a w ∧ ∀ o, ops[i]? = some o → ∀ e ∈ o.after, Region.binds md e = true → listed.getD e.on true = true) → wpAny P md ops Q fuel listed a w := by
  have all : ∀ (listed : Array Bool), listed.size = ops.size → Region.ready md ops listed = [] → ∀ i, i < ops.size → listed.getD i true = true := by
    intro listed hsz hr i
    induction i using Nat.strongRecOn with
    | ind i ih =>
      intro hi
      cases hl : listed.getD i true with
      | true => rfl
      | false =>
        exfalso
        have hm : i ∈ Region.ready md ops listed := by
          rw [mem_ready]
          refine ⟨hl, ops[i], by simp [hi], fun e he hb => ?_⟩
          have hlt := hbefore i ops[i] (by simp [hi]) e he hb
          have h2 := ih e.on hlt (by omega)
          have h3 : e.on < listed.size := by omega
          simp [Array.getD, h3] at h2 ⊢
          exact h2
        rw [hr] at hm; cases hm
  intro fuel
  induction fuel with
  | zero =>
    intro listed a w hst hsz hC hB hR
    have hall := still_zero (Nat.le_zero.1 hst)
    have hr : Region.ready md ops listed = [] := by
      cases h : Region.ready md ops listed with
      | nil => rfl
      | cons i l =>
        have hm : i ∈ Region.ready md ops listed := by rw [h]; exact List.mem_cons_self
        obtain ⟨h1, o, ho, _⟩ := mem_ready.1 hm
        have hi : i < ops.size := (Array.getElem?_eq_some_iff.1 ho).1
        rw [hall i hi] at h1; cases h1
    exact ⟨hr, hfin a w hC hB fun i hi => (hR i hi (hall i hi)).1⟩
  | succ fuel ih =>
    intro listed a w hst hsz hC hB hR
    refine ⟨fun hr => hfin a w hC hB fun i hi => (hR i hi (all listed hsz hr i hi)).1, fun i hi => ?_⟩
    obtain ⟨h1, o, ho, hdeps⟩ := mem_ready.1 hi
    have hin : i < ops.size := (Array.getElem?_eq_some_iff.1 ho).1
    have hdl : ∀ e ∈ o.after, Region.binds md e = true → listed.getD e.on true = true := by
      intro e he hb
      have hlt := hbefore i o ho e he hb
      have h2 := hdeps e he hb
      have h3 : e.on < listed.size := by omega
      simp [Array.getD, h3] at h2 ⊢
      exact h2
    refine wpOp_mono ?_ (hops i o ho a w hC hB fun e he hb => (hR e.on (by have := hbefore i o ho e he hb; omega) (hdl e he hb)).1)
    rintro a' w' ⟨v, rfl, hC', hT, hRv⟩
    have hless := still_less hin h1
    have keep : ∀ k, listed.getD k true = true → (listed.setIfInBounds i true).getD k true = true := by
      intro k hk
      by_cases e : k = i
      · subst e
        have hs : k < listed.size := by omega
        simp [Array.getD, hs]
      · rw [getD_set_ne true (Ne.symm e)]; exact hk
    refine ih _ _ _ (by omega) (by simp [hsz]) hC' (hbase i o ho a v hB) fun j hj hlj => ?_
    by_cases e : j = i
    · subst e
      refine ⟨hRv, fun o' ho' e he hb => keep _ ?_⟩
      obtain rfl : o' = o := Option.some.inj (ho'.symm.trans ho)
      exact hdl e he hb
    · rw [getD_set_ne true (Ne.symm e)] at hlj
      obtain ⟨hRj, hdj⟩ := hR j hj hlj
      refine ⟨hext j a _ w w' hRj (fun s hs => put_slot fun x hx hxs => ?_) hT, fun o' ho' e he hb => keep _ (hdj o' ho' e he hb)⟩
      subst hxs
      refine hslots i j o ops[j] ho (by simp [hj]) e (fun e' he' hb' hne => ?_) x hx hs
      have := hdj ops[j] (by simp [hj]) e' he' hb'
      rw [hne, h1] at this; cases this

/-- the two conditions on the list, as a Bool -/
def planB (l : List Oper) (S : List (List Tmp)) : Bool :=
  (List.range l.length).all fun i => match l[i]? with
    | none => true
    | some o => (o.after.all fun e => !Region.binds .any e || decide (e.on < i)) && (match o.dst with
      | none => true
      | some d => (List.range l.length).all fun j => j == i || (match l[j]? with
        | some o' => (o'.after.any fun e => Region.binds .any e && e.on == i) || !(S.getD j []).contains d
        | none => true))
/-- a drawn region whose operations are written out and unguarded, by facts of frame and world -/
theorem wp_region_list2 {id : Nat} {l : List Oper} {a : Act} {w : World} (S : List (List Tmp)) (Base : Act → Prop) (C : World → Prop) (T : World → World → Prop) (R : Nat → Act → World → Prop) (hm : P.follows .mixedOrders = true)
    (hpl : planB l S = true) (hext : ∀ j a a' w w', R j a w → (∀ s ∈ S.getD j [], a'.tmps.getD s undef = a.tmps.getD s undef) → T w w' → R j a' w')
    (hbase : AllFrom (fun _ o => ∀ a v, Base a → Base (a.put o.dst v)) 0 l) (hC : C { w with drawn := w.drawn + 1 }) (hB : Base a)
    (hops : AllFrom (fun i o => o.guard = none ∧ ∀ a w, C w → Base a → (∀ e ∈ o.after, Region.binds .any e = true → R e.on a w) →
      o.wp P a w (fun a' w' => ∃ v, a' = a.put o.dst v ∧ C w' ∧ T w w' ∧ R i a' w') Q) 0 l)
    (hfin : ∀ a w, C w → Base a → (∀ i, i < l.length → R i a w) → Q .normal a w) : (Code.region id l.toArray true).wp P Q a w := by
  have hp := List.all_eq_true.1 hpl
  refine wp_region_any hm (wpAny_facts2 (S := fun j => S.getD j []) (Base := Base) (C := C) (T := T) (R := R) ?_ ?_ hext hbase.all
    (fun i o ho a w h1 h2 h3 => wpOp_of ho (hops.all i o ho).1 ((hops.all i o ho).2 a w h1 h2 h3))
    (fun a w h1 h2 h3 => hfin a w h1 h2 fun i hi => h3 i (by simpa using hi)) _ _ _ _ ?_ (by simp) hC hB ?_)
  · intro i o ho e he hb
    have ho' : l[i]? = some o := by simpa using ho
    have h1 := hp i (List.mem_range.2 (List.getElem?_eq_some_iff.1 ho').1)
    simp only [ho', Bool.and_eq_true] at h1
    have h2 := (Array.all_eq_true_iff_forall_mem.1 h1.1) e he
    simpa [hb] using h2
  · intro i j o o' ho ho' hne hno d hd
    have hi : l[i]? = some o := by simpa using ho
    have hj : l[j]? = some o' := by simpa using ho'
    have h1 := hp i (List.mem_range.2 (List.getElem?_eq_some_iff.1 hi).1)
    simp only [hi, hd, Bool.and_eq_true] at h1
    have h2 := List.all_eq_true.1 h1.2 j (List.mem_range.2 (List.getElem?_eq_some_iff.1 hj).1)
    simp only [hj, Bool.or_eq_true, beq_iff_eq] at h2
    rcases h2 with h2 | h2 | h2
    · exact absurd h2 hne
    · obtain ⟨k, hk, hb⟩ := Array.any_eq_true.1 h2
      obtain ⟨e, he⟩ : ∃ e, e = o'.after[k] := ⟨_, rfl⟩
      rw [← he] at hb
      have he : e ∈ o'.after := by rw [he]; exact Array.getElem_mem hk
      simp only [Bool.and_eq_true, beq_iff_eq] at hb
      exact absurd hb.2 (hno e he hb.1)
    · intro hm
      simp at h2
      exact h2 hm
  · unfold still
    exact Nat.le_trans (List.length_filter_le _ _) (by simp)
  · intro i hi h
    have hi' : i < l.length := by simpa using hi
    simp [Array.getD] at h
    omega

theorem if_yes {c : Bool} {A B : Prop} (h : c = true) (hA : A) : if c = true then A else B := by rw [if_pos h]; exact hA
theorem if_no {c : Bool} {A B : Prop} (h : c = false) (hB : B) : if c = true then A else B := by rw [h]; exact hB
/-- what an operation leaves: its slot written, the world in the class and gone on, its own fact -/
def Leaves (C : World → Prop) (T : World → World → Prop) (R : Nat → Act → World → Prop) (i : Nat) (o : Oper) (a : Act) (w : World) (a' : Act) (w' : World) : Prop := ∃ v, a' = a.put o.dst v ∧ C w' ∧ T w w' ∧ R i a' w'
/-- .. where operations may be guarded: an operation that is not wanted leaves its slot undefined -/
theorem wp_region_list3 {id : Nat} {l : List Oper} {a : Act} {w : World} (S : List (List Tmp)) (Base : Act → Prop) (C : World → Prop) (T : World → World → Prop) (R : Nat → Act → World → Prop) (hm : P.follows .mixedOrders = true)
    (hpl : planB l S = true) (hext : ∀ j a a' w w', R j a w → (∀ s ∈ S.getD j [], a'.tmps.getD s undef = a.tmps.getD s undef) → T w w' → R j a' w')
    (hbase : AllFrom (fun _ o => ∀ a v, Base a → Base (a.put o.dst v)) 0 l) (hC : C { w with drawn := w.drawn + 1 }) (hB : Base a)
    (hops : AllFrom (fun i o => ∀ a w, C w → Base a → (∀ e ∈ o.after, Region.binds .any e = true → R e.on a w) →
      if Region.wanted o (yielded l.toArray a.tmps) = true then o.wp P a w (Leaves C T R i o a w) Q
      else Leaves C T R i o a w (a.put o.dst undef) w) 0 l)
    (hfin : ∀ a w, C w → Base a → (∀ i, i < l.length → R i a w) → Q .normal a w) : (Code.region id l.toArray true).wp P Q a w := by
  have hp := List.all_eq_true.1 hpl
  refine wp_region_any hm (wpAny_facts2 (S := fun j => S.getD j []) (Base := Base) (C := C) (T := T) (R := R) ?_ ?_ hext hbase.all
    (fun i o ho a w h1 h2 h3 => ?_)
    (fun a w h1 h2 h3 => hfin a w h1 h2 fun i hi => h3 i (by simpa using hi)) _ _ _ _ ?_ (by simp) hC hB ?_)
  · intro i o ho e he hb
    have ho' : l[i]? = some o := by simpa using ho
    have h1 := hp i (List.mem_range.2 (List.getElem?_eq_some_iff.1 ho').1)
    simp only [ho', Bool.and_eq_true] at h1
    have h2 := (Array.all_eq_true_iff_forall_mem.1 h1.1) e he
    simpa [hb] using h2
  · intro i j o o' ho ho' hne hno d hd
    have hi : l[i]? = some o := by simpa using ho
    have hj : l[j]? = some o' := by simpa using ho'
    have h1 := hp i (List.mem_range.2 (List.getElem?_eq_some_iff.1 hi).1)
    simp only [hi, hd, Bool.and_eq_true] at h1
    have h2 := List.all_eq_true.1 h1.2 j (List.mem_range.2 (List.getElem?_eq_some_iff.1 hj).1)
    simp only [hj, Bool.or_eq_true, beq_iff_eq] at h2
    rcases h2 with h2 | h2 | h2
    · exact absurd h2 hne
    · obtain ⟨k, hk, hb⟩ := Array.any_eq_true.1 h2
      obtain ⟨e, he⟩ : ∃ e, e = o'.after[k] := ⟨_, rfl⟩
      rw [← he] at hb
      have he : e ∈ o'.after := by rw [he]; exact Array.getElem_mem hk
      simp only [Bool.and_eq_true, beq_iff_eq] at hb
      exact absurd hb.2 (hno e he hb.1)
    · intro hm
      simp at h2
      exact h2 hm
  · have h4 := hops.all i o ho a w h1 h2 h3
    unfold wpOp
    simp only [ho]
    by_cases hw : Region.wanted o (yielded l.toArray a.tmps) = true
    · rw [if_pos hw] at h4 ⊢
      exact Or.inl h4
    · rw [if_neg hw] at h4 ⊢
      exact h4
  · unfold still
    exact Nat.le_trans (List.length_filter_le _ _) (by simp)
  · intro i hi h
    have hi' : i < l.length := by simpa using hi
    simp [Array.getD] at h
    omega

end
end Go.Proofs.YtjmoecfgpfdncaaDoor

/- Facts of a drawn region's operations: a value in a slot each, or a fact of one's own. -/
namespace Go.Proofs.YtjmoecfgpfdncaaDoor
open Go.RowKit

/-- operation j has left this value in this slot; where the list says nothing: Sp -/
def RV (vs : List (Option (Tmp × Value))) (Sp : Nat → Act → World → Prop) (j : Nat) (a : Act) (w : World) : Prop :=
  match vs[j]? with
  | some (some (d, v)) => a.tmps.getD d undef = v
  | some none => Sp j a w
  | none => True
/-- the slots that a fact looks at -/
def SV (vs : List (Option (Tmp × Value))) (sp : List Tmp) : List (List Tmp) := vs.map fun o => match o with
  | some (d, _) => [d]
  | none => sp
theorem RV.ext {vs : List (Option (Tmp × Value))} {sp : List Tmp} {Sp : Nat → Act → World → Prop} {T : World → World → Prop}
    (hsp : ∀ j a a' w w', Sp j a w → (∀ d ∈ sp, a'.tmps.getD d undef = a.tmps.getD d undef) → T w w' → Sp j a' w') :
    ∀ j a a' w w', RV vs Sp j a w → (∀ s ∈ (SV vs sp).getD j [], a'.tmps.getD s undef = a.tmps.getD s undef) → T w w' → RV vs Sp j a' w' := by
  intro j a a' w w' h hd hT
  unfold RV at *
  rw [List.getD_eq_getElem?_getD] at hd
  cases hj : vs[j]? with
  | none => trivial
  | some o =>
    rw [hj] at h
    cases o with
    | none => exact hsp j a a' w w' h (fun d hm => hd d (by simp [SV, hj]; exact hm)) hT
    | some p => exact (hd p.1 (by simp [SV, hj])).trans h

/-- a world goes on: nothing that was there turns -/
def Goes (w w' : World) : Prop := Below w.heap.size w w'
theorem Goes.refl (w : World) : Goes w w := Below.refl _ _

end Go.Proofs.YtjmoecfgpfdncaaDoor

/- The reference of layer 8, walked: hurts, page, takes, ends, New. -/
namespace Go.Proofs.YtjmoecfgpfdncaaDoor
set_option maxRecDepth 100000
open Go.RowKit

theorem size_fault : (Tryd.prog.info? 23).map (·.size) = some 4 := by kernel_rfl
end Go.Proofs.YtjmoecfgpfdncaaDoor

/- The reference of layer 8, walked: ends, New. -/
namespace Go.Proofs.YtjmoecfgpfdncaaDoor
set_option maxRecDepth 100000
open Go.RowKit

theorem blk_third (w : World) (A B : Obj) (cs : Array Value) (t : TypeId) : Blk (((w.alloc A).alloc B).alloc (.cells cs t)) (w.heap.size + 1 + 1) cs t := by
  have h := Blk.new ((w.alloc A).alloc B) cs t
  rwa [World.size_alloc, World.size_alloc] at h
end Go.Proofs.YtjmoecfgpfdncaaDoor

/- The reference of layer 8, walked: New. -/
namespace Go.Proofs.YtjmoecfgpfdncaaDoor
set_option maxRecDepth 100000
open Go.RowKit

theorem madeCells_one (z : Value) (n j : Nat) (h : j < n) : (madeCells #[z] n)[j]? = some z := by
  simp [madeCells, h, Nat.mod_one]
theorem rd_new (w : World) (z : Value) (n : Nat) (e : TypeId) : RdSl (w.alloc (.cells (madeCells #[z] n) e)) w.heap.size n (List.replicate n z) := by
  refine ⟨by simp, fun j hj => ?_⟩
  simp only [List.length_replicate] at hj
  rw [(Blk.new w (madeCells #[z] n) e).cell j, madeCells_one z n j hj, List.getElem?_replicate_of_lt hj]
theorem rd_second (w : World) (A B : Obj) (z : Value) (n : Nat) (e : TypeId) : 0 < n → RdSl (((w.alloc A).alloc (.cells (madeCells #[z] n) e)).alloc B).drew (w.heap.size + 1) n (List.replicate n z) := by
  intro hn
  have h := rd_new (w.alloc A) z n e
  rw [World.size_alloc] at h
  have hl := h.lt (by simpa using hn)
  exact RdSl.keep (RdSl.keep h (heap_alloc_old _ _ hl)) rfl
theorem rd_third (w : World) (A B : Obj) (z : Value) (n : Nat) (e : TypeId) : RdSl (((w.alloc A).alloc B).alloc (.cells (madeCells #[z] n) e)).drew (w.heap.size + 1 + 1) n (List.replicate n z) := by
  have h := rd_new ((w.alloc A).alloc B) z n e
  rw [World.size_alloc, World.size_alloc] at h
  exact RdSl.keep h rfl
theorem blk_first (w : World) (A B : Obj) (cs : Array Value) (t : TypeId) : Blk (((w.alloc (.cells cs t)).alloc A).alloc B).drew w.heap.size cs t := (((Blk.new w cs t).alloc A).alloc B).drew
theorem below_three (w : World) (A B C : Obj) : Below w.heap.size w (((w.alloc A).alloc B).alloc C).drew := Below.drew ((((Below.refl w.heap.size w).alloc (Nat.le_refl _) _).alloc (by simp) _).alloc (by simp; omega) _)
theorem new_strs (l y : Nat) : strs (newSt l y).ps = List.replicate (3 * l) (.string ByteArray.empty) := by simp [strs, newSt]
theorem new_bls (l y : Nat) : bls (newSt l y).hs = List.replicate (3 * l) (.bool false) := by simp [bls, newSt]
theorem infoStr : (Tryd.prog.info? 9).map (fun i => (i.zero, i.size, i.bytes)) = some (some (.string ByteArray.empty), 1, 16) := by kernel_rfl
theorem infoBool : (Tryd.prog.info? 4).map (fun i => (i.zero, i.size, i.bytes)) = some (some (.bool false), 1, 1) := by kernel_rfl

def NewT (l y : Int) (w : World) (e : Ending) (w' : World) : Prop :=
  (NewOk l y → ∃ g h c d, e = .returned (.tuple #[.agg (cv (newSt l.toNat y.toNat) g c h d), .int .i64 0]) ∧ RAt w' (newSt l.toNat y.toNat) g c h d ∧ w.heap.size ≤ g ∧ w.heap.size ≤ h)
  ∧ (¬ NewOk l y → e = .returned (.tuple #[.agg zv, .int .i64 60])) ∧ Below w.heap.size w w'

end Go.Proofs.YtjmoecfgpfdncaaDoor

/- The reference of layer 8, walked: put. -/
namespace Go.Proofs.YtjmoecfgpfdncaaDoor
set_option maxRecDepth 100000
open Go.RowKit

/-- two rows of two types lie in two blocks -/
theorem own_apart {w : World} {B1 B2 s1 s2 n1 n2 : Nat} {e1 e2 : TypeId} {v1 v2 : Value} {x1 x2 : List Value} (h1 : w.ownsRow B1 e1 s1 v1 n1 x1) (h2 : w.ownsRow B2 e2 s2 v2 n2 x2) (hne : e1 ≠ e2) : v1.ownBlock = none ∨ v1.ownBlock ≠ v2.ownBlock := by
  cases hb : v1.ownBlock with
  | none => exact Or.inl rfl
  | some b =>
    refine Or.inr fun hc => ?_
    obtain ⟨c1, f1, g1⟩ := Lib.ownsRow_kind h1 b hb
    obtain ⟨c2, f2, g2⟩ := Lib.ownsRow_kind h2 b hc.symm
    rw [g1] at g2
    simp at g2
    exact hne g2.2.1
theorem rd_own {w : World} {B n g cap : Nat} {e : TypeId} {xs : List Value} (h : w.ownsRow B e 1 (.slice (some ⟨g, 0, none⟩) n cap) n xs) (hx : xs.length = n) : RdSl w g cap xs ∧ B ≤ g := by
  have hlt := h.lt g rfl
  refine ⟨⟨?_, fun j hj => ?_⟩, hlt.1⟩
  · rcases h.2 with ⟨hn, _⟩ | ⟨g', cap', cur, hv, _, _, hle, _⟩
    · cases hn
    · cases hv; omega
  · exact h.cellAt j (by omega)
def putPs (s : St) (i : Nat) (p : ByteArray) (k : Nat) : List ByteArray := (s.ps.set i p).take k
def putHs (s : St) (i : Nat) (b : Bool) (k : Nat) : List Bool := (s.hs.set i b).take k
theorem putPs_succ {s : St} (hw : WfSt s) (i k : Nat) (p : ByteArray) (hk : k < 3 * s.L) : strs (putPs s i p (k + 1)) = strs (putPs s i p k) ++ [.string (if k = i then p else pageAt s k)] := by
  have h1 : k < (s.ps.set i p).length := by simp [hw.psl]; omega
  unfold putPs strs
  rw [List.take_add_one, List.map_append, List.getElem?_eq_getElem h1]
  simp only [Option.toList, List.map_cons, List.map_nil]
  rw [List.getElem_set]
  congr 2
  have h2 : k < s.ps.length := by rw [hw.psl]; exact hk
  split
  · rw [if_pos (by omega)]
  · rw [if_neg (by omega)]; simp [pageAt, h2]
theorem putHs_succ {s : St} (hw : WfSt s) (i k : Nat) (b : Bool) (hk : k < 3 * s.L) : bls (putHs s i b (k + 1)) = bls (putHs s i b k) ++ [.bool (if k = i then b else s.hs.getD k false)] := by
  have h1 : k < (s.hs.set i b).length := by simp [hw.hsl]; omega
  unfold putHs bls
  rw [List.take_add_one, List.map_append, List.getElem?_eq_getElem h1]
  simp only [Option.toList, List.map_cons, List.map_nil]
  rw [List.getElem_set]
  congr 2
  have h2 : k < s.hs.length := by rw [hw.hsl]; exact hk
  split
  · rw [if_pos (by omega)]
  · rw [if_neg (by omega)]; simp [h2]
theorem putPs_all {s : St} (hw : WfSt s) (i : Nat) (p : ByteArray) (b : Bool) : putPs s i p (3 * s.L) = (putSt s i p b).ps := List.take_of_length_le (by simp [hw.psl])
theorem putHs_all {s : St} (hw : WfSt s) (i : Nat) (p : ByteArray) (b : Bool) : putHs s i b (3 * s.L) = (putSt s i p b).hs := List.take_of_length_le (by simp [hw.hsl])
theorem putPs_len {s : St} (hw : WfSt s) (i k : Nat) (p : ByteArray) (hk : k ≤ 3 * s.L) : (strs (putPs s i p k)).length = k := by simp [strs, putPs, hw.psl]; omega
theorem putHs_len {s : St} (hw : WfSt s) (i k : Nat) (b : Bool) (hk : k ≤ 3 * s.L) : (bls (putHs s i b k)).length = k := by simp [bls, putHs, hw.hsl]; omega

theorem setRow_heap_ne (w : World) (b g : Nat) (cs : Array Value) (h : b ≠ g) : (w.setRow b cs).heap[g]? = w.heap[g]? := by
  simp only [World.setRow, Array.getElem?_modify]
  rw [if_neg h]
/-- what a call leaves that answers a cell -/
def CellT (s : St) (w : World) (e : Ending) (w' : World) : Prop := (∃ g c h d, e = .returned (.agg (cv s g c h d)) ∧ RAt w' s g c h d ∧ w.heap.size ≤ g ∧ w.heap.size ≤ h) ∧ Below w.heap.size w w'

end Go.Proofs.YtjmoecfgpfdncaaDoor

/- Cells in a drawn region: what a slot, or a block, holds, while calls and one store of a cell come in any order. -/
namespace Go.Proofs.YtjmoecfgpfdncaaDoor
set_option maxRecDepth 100000
open Go.RowKit

/-- the slots that a fact looks at, those of a fact of one's own by the operation's number -/
def SV2 (vs : List (Option (Tmp × Value))) (f : Nat → List Tmp) : List (List Tmp) := vs.mapIdx fun j o => match o with
  | some (d, _) => [d]
  | none => f j
theorem RV.ext2 {vs : List (Option (Tmp × Value))} {f : Nat → List Tmp} {Sp : Nat → Act → World → Prop} {T : World → World → Prop}
    (hsp : ∀ j a a' w w', Sp j a w → (∀ d ∈ f j, a'.tmps.getD d undef = a.tmps.getD d undef) → T w w' → Sp j a' w') :
    ∀ j a a' w w', RV vs Sp j a w → (∀ s ∈ (SV2 vs f).getD j [], a'.tmps.getD s undef = a.tmps.getD s undef) → T w w' → RV vs Sp j a' w' := by
  intro j a a' w w' h hd hT
  unfold RV at *
  rw [List.getD_eq_getElem?_getD] at hd
  cases hj : vs[j]? with
  | none => trivial
  | some o =>
    rw [hj] at h
    cases o with
    | none => exact hsp j a a' w w' h (fun d hm => hd d (by simp [SV2, hj]; exact hm)) hT
    | some p => exact (hd p.1 (by simp [SV2, hj])).trans h
/-- slot x holds the reference's value of s, its slices in blocks from base on -/
def SlotC (x : Tmp) (s : St) (base : Nat) (a : Act) (w : World) : Prop := ∃ g c h d, a.tmps.getD x undef = .agg (cv s g c h d) ∧ RAt w s g c h d ∧ base ≤ g ∧ base ≤ h
def SlotP (x : Tmp) (s : St) (ec : Int) (base : Nat) (a : Act) (w : World) : Prop := ∃ g c h d, a.tmps.getD x undef = .tuple #[.agg (cv s g c h d), .int .i64 ec] ∧ RAt w s g c h d ∧ base ≤ g ∧ base ≤ h
theorem RAt.same {w : World} {s t : St} {g c h d : Nat} (hr : RAt w s g c h d) (hp : t.ps = s.ps) (hh : t.hs = s.hs) : RAt w t g c h d := by
  obtain ⟨h1, h2⟩ := hr
  exact ⟨by rw [hp]; exact h1, by rw [hh]; exact h2⟩
theorem endSt_ps (s : St) (k : Int) : (endSt s k).ps = s.ps ∧ (endSt s k).hs = s.hs := by
  unfold endSt
  split
  · exact ⟨rfl, rfl⟩
  · split <;> exact ⟨rfl, rfl⟩
theorem RAt_end {w : World} {s : St} {g c h d : Nat} (hr : RAt w s g c h d) (k : Int) : RAt w (endSt s k) g c h d := hr.same (endSt_ps s k).1 (endSt_ps s k).2
theorem stepSt_cv (s : St) (m : Int) (g c h d : Nat) : ((cv s g c h d).setIfInBounds 2 (.int .i64 m)).setIfInBounds 3 (.int .i64 ((s.done : Int) + 1)) = cv (stepSt s m) g c h d := by
  unfold cv stepSt
  simp
/-- what a call leaves that answers a cell and how it went: the slices are the ones that came in, or new ones -/
def PairT (s : St) (ec : Int) (g0 h0 : Nat) (w : World) (e : Ending) (w' : World) : Prop :=
  (∃ g c h d, e = .returned (.tuple #[.agg (cv s g c h d), .int .i64 ec]) ∧ RAt w' s g c h d ∧ ((g = g0 ∧ h = h0) ∨ (w.heap.size ≤ g ∧ w.heap.size ≤ h))) ∧ Below w.heap.size w w'

end Go.Proofs.YtjmoecfgpfdncaaDoor

/- The reference of layer 8, walked: Program. -/
namespace Go.Proofs.YtjmoecfgpfdncaaDoor
set_option maxRecDepth 100000
open Go.RowKit

theorem blk_mid (w : World) (A B : Obj) (cs : Array Value) (t : TypeId) : Blk (((w.alloc A).alloc (.cells cs t)).alloc B) (w.heap.size + 1) cs t := by
  have h := (Blk.new (w.alloc A) cs t).alloc B
  rwa [World.size_alloc] at h
theorem below_3 (w : World) (A B C : Obj) : Below w.heap.size w (((w.alloc A).alloc B).alloc C) := (((Below.refl w.heap.size w).alloc (Nat.le_refl _) _).alloc (by simp) _).alloc (by simp; omega) _
def fPR (j : Nat) : List Tmp := if j = 8 then [53] else if j = 10 then [55] else if j = 11 then [56] else []
/-- what each operation of the region PR leaves -/
def vsPR (s1 : St) (g c h d i : Nat) (line : Int) (p : ByteArray) (x k a b : Int) : List (Option (Tmp × Value)) :=
  [some (45, .agg (cv s1 g c h d)), some (46, .int .i64 line), some (47, .int .i64 ((3 * i : Nat) : Int)), some (48, .string p), some (49, .agg (fv x k a b)), some (50, .string (pageT p k a b)), some (51, .agg (fv x k a b)), some (52, .bool (hurtsB k)), none, some (54, .agg (fv x k a b)), none, none, some (57, .int .i64 (endC k)), none, some (9, .int .i64 (endC k))]
/-- the frame while the region PR runs -/
def BasePR (B : Nat) (line : Int) (p : ByteArray) (a : Act) : Prop := ∃ u : Nat → Value, a = ⟨#[u 0, .int .i64 line, .string p, u 3, .pointer (some ⟨B, 0, none⟩), u 5, u 6, .pointer (some ⟨B + 1, 0, none⟩), .pointer (some ⟨B + 2, 0, none⟩), u 9, u 10, u 11, u 12, u 13, u 14, u 15, u 16, u 17, u 18, u 19, u 20, u 21, u 22, u 23, u 24, u 25, u 26, u 27, u 28, u 29, u 30, u 31, u 32, u 33, u 34, u 35, u 36, u 37, u 38, u 39, u 40, u 41, u 42, u 43, u 44, u 45, u 46, u 47, u 48, u 49, u 50, u 51, u 52, u 53, u 54, u 55, u 56, u 57], []⟩
theorem BasePR.of {B : Nat} {line : Int} {p : ByteArray} (arr : Array Value) (h : arr = #[arr.getD 0 undef, .int .i64 line, .string p, arr.getD 3 undef, .pointer (some ⟨B, 0, none⟩), arr.getD 5 undef, arr.getD 6 undef, .pointer (some ⟨B + 1, 0, none⟩), .pointer (some ⟨B + 2, 0, none⟩), arr.getD 9 undef, arr.getD 10 undef, arr.getD 11 undef, arr.getD 12 undef, arr.getD 13 undef, arr.getD 14 undef, arr.getD 15 undef, arr.getD 16 undef, arr.getD 17 undef, arr.getD 18 undef, arr.getD 19 undef, arr.getD 20 undef, arr.getD 21 undef, arr.getD 22 undef, arr.getD 23 undef, arr.getD 24 undef, arr.getD 25 undef, arr.getD 26 undef, arr.getD 27 undef, arr.getD 28 undef, arr.getD 29 undef, arr.getD 30 undef, arr.getD 31 undef, arr.getD 32 undef, arr.getD 33 undef, arr.getD 34 undef, arr.getD 35 undef, arr.getD 36 undef, arr.getD 37 undef, arr.getD 38 undef, arr.getD 39 undef, arr.getD 40 undef, arr.getD 41 undef, arr.getD 42 undef, arr.getD 43 undef, arr.getD 44 undef, arr.getD 45 undef, arr.getD 46 undef, arr.getD 47 undef, arr.getD 48 undef, arr.getD 49 undef, arr.getD 50 undef, arr.getD 51 undef, arr.getD 52 undef, arr.getD 53 undef, arr.getD 54 undef, arr.getD 55 undef, arr.getD 56 undef, arr.getD 57 undef]) : BasePR B line p ⟨arr, []⟩ := ⟨fun i => arr.getD i undef, by rw [← h]⟩
theorem BasePR.put45 {B : Nat} {line : Int} {p : ByteArray} (a : Act) (v : Value) (h : BasePR B line p a) : BasePR B line p (a.put (some 45) v) := by
  obtain ⟨u, rfl⟩ := h
  exact ⟨fun i => if i = 45 then v else u i, by kernel_rfl⟩
theorem BasePR.put46 {B : Nat} {line : Int} {p : ByteArray} (a : Act) (v : Value) (h : BasePR B line p a) : BasePR B line p (a.put (some 46) v) := by
  obtain ⟨u, rfl⟩ := h
  exact ⟨fun i => if i = 46 then v else u i, by kernel_rfl⟩
theorem BasePR.put47 {B : Nat} {line : Int} {p : ByteArray} (a : Act) (v : Value) (h : BasePR B line p a) : BasePR B line p (a.put (some 47) v) := by
  obtain ⟨u, rfl⟩ := h
  exact ⟨fun i => if i = 47 then v else u i, by kernel_rfl⟩
theorem BasePR.put48 {B : Nat} {line : Int} {p : ByteArray} (a : Act) (v : Value) (h : BasePR B line p a) : BasePR B line p (a.put (some 48) v) := by
  obtain ⟨u, rfl⟩ := h
  exact ⟨fun i => if i = 48 then v else u i, by kernel_rfl⟩
theorem BasePR.put49 {B : Nat} {line : Int} {p : ByteArray} (a : Act) (v : Value) (h : BasePR B line p a) : BasePR B line p (a.put (some 49) v) := by
  obtain ⟨u, rfl⟩ := h
  exact ⟨fun i => if i = 49 then v else u i, by kernel_rfl⟩
theorem BasePR.put50 {B : Nat} {line : Int} {p : ByteArray} (a : Act) (v : Value) (h : BasePR B line p a) : BasePR B line p (a.put (some 50) v) := by
  obtain ⟨u, rfl⟩ := h
  exact ⟨fun i => if i = 50 then v else u i, by kernel_rfl⟩
theorem BasePR.put51 {B : Nat} {line : Int} {p : ByteArray} (a : Act) (v : Value) (h : BasePR B line p a) : BasePR B line p (a.put (some 51) v) := by
  obtain ⟨u, rfl⟩ := h
  exact ⟨fun i => if i = 51 then v else u i, by kernel_rfl⟩
theorem BasePR.put52 {B : Nat} {line : Int} {p : ByteArray} (a : Act) (v : Value) (h : BasePR B line p a) : BasePR B line p (a.put (some 52) v) := by
  obtain ⟨u, rfl⟩ := h
  exact ⟨fun i => if i = 52 then v else u i, by kernel_rfl⟩
theorem BasePR.put53 {B : Nat} {line : Int} {p : ByteArray} (a : Act) (v : Value) (h : BasePR B line p a) : BasePR B line p (a.put (some 53) v) := by
  obtain ⟨u, rfl⟩ := h
  exact ⟨fun i => if i = 53 then v else u i, by kernel_rfl⟩
theorem BasePR.put54 {B : Nat} {line : Int} {p : ByteArray} (a : Act) (v : Value) (h : BasePR B line p a) : BasePR B line p (a.put (some 54) v) := by
  obtain ⟨u, rfl⟩ := h
  exact ⟨fun i => if i = 54 then v else u i, by kernel_rfl⟩
theorem BasePR.put55 {B : Nat} {line : Int} {p : ByteArray} (a : Act) (v : Value) (h : BasePR B line p a) : BasePR B line p (a.put (some 55) v) := by
  obtain ⟨u, rfl⟩ := h
  exact ⟨fun i => if i = 55 then v else u i, by kernel_rfl⟩
theorem BasePR.put56 {B : Nat} {line : Int} {p : ByteArray} (a : Act) (v : Value) (h : BasePR B line p a) : BasePR B line p (a.put (some 56) v) := by
  obtain ⟨u, rfl⟩ := h
  exact ⟨fun i => if i = 56 then v else u i, by kernel_rfl⟩
theorem BasePR.put57 {B : Nat} {line : Int} {p : ByteArray} (a : Act) (v : Value) (h : BasePR B line p a) : BasePR B line p (a.put (some 57) v) := by
  obtain ⟨u, rfl⟩ := h
  exact ⟨fun i => if i = 57 then v else u i, by kernel_rfl⟩
theorem BasePR.put9 {B : Nat} {line : Int} {p : ByteArray} (a : Act) (v : Value) (h : BasePR B line p a) : BasePR B line p (a.put (some 9) v) := by
  obtain ⟨u, rfl⟩ := h
  exact ⟨fun i => if i = 9 then v else u i, by kernel_rfl⟩

theorem pr_no {s : St} {line : Int} {p : ByteArray} {k a b : Int} (h : ¬ ProgOk s line p) : progSt s line p k a b = s ∧ progC s line p k = 80 := by
  unfold progSt progC
  rw [if_neg h, if_neg h]
  exact ⟨rfl, rfl⟩
theorem pr_yes {s : St} {line : Int} {p : ByteArray} {k a b : Int} (h : ProgOk s line p) : progSt s line p k a b = endSt (putSt (stepSt s 1) (3 * line.toNat) (pageT p k a b) (hurtsB k)) k ∧ progC s line p k = endC k := by
  unfold progSt progC
  rw [if_pos h, if_pos h]
  exact ⟨rfl, rfl⟩

end Go.Proofs.YtjmoecfgpfdncaaDoor

/- The reference of layer 8, walked: Program, whole. -/
namespace Go.Proofs.YtjmoecfgpfdncaaDoor
set_option maxRecDepth 100000
open Go.RowKit

end Go.Proofs.YtjmoecfgpfdncaaDoor

/- The reference of layer 8, walked: at, Read. -/
namespace Go.Proofs.YtjmoecfgpfdncaaDoor
set_option maxRecDepth 100000
open Go.RowKit

theorem text_full {q : ByteArray} (h : ¬ q = ByteArray.empty) : q.toList.isEmpty = false := by
  rw [ByteArray.toList_eq]
  cases hq : q.data.toList with
  | nil =>
    exfalso
    apply h
    obtain ⟨d⟩ := q
    simp at hq
    subst hq
    rfl
  | cons => rfl
def AtP (s : St) (j : Nat) (w : World) (e : Ending) (w' : World) : Prop := e = .returned (.tuple #[.string (atT s j), .bool (atH s j)]) ∧ Below w.heap.size w w'
end Go.Proofs.YtjmoecfgpfdncaaDoor

/- The reference of layer 8, walked: Read. -/
namespace Go.Proofs.YtjmoecfgpfdncaaDoor
set_option maxRecDepth 100000
open Go.RowKit

def ReadP (s : St) (line part : Int) (w : World) (e : Ending) (w' : World) : Prop := e = .returned (.tuple #[.string (readT s line part), .int .i64 (readC s line part)]) ∧ Below w.heap.size w w'
theorem read_no {s : St} {line part : Int} (h : ¬ ReadOk s line part) : readT s line part = ByteArray.empty ∧ readC s line part = 80 := by
  unfold readT readC
  rw [if_neg h, if_neg h]
  exact ⟨rfl, rfl⟩
theorem read_yes {s : St} {i q : Nat} (h : ReadOk s i q) : readT s i q = atT s (3 * i + q) ∧ readC s i q = 0 := by
  unfold readT readC
  rw [if_pos h, if_pos h]
  simp
end Go.Proofs.YtjmoecfgpfdncaaDoor

/- As XInv2, where one operation (a store) comes behind all others: what holds of the world need hold up to it alone. -/
namespace Go.Proofs.YtjmoecfgpfdncaaDoor

section
variable {P : Program} {ops : Array Oper} {Q : Exit → Act → World → Prop} {md : Region.Mode}

theorem wpAny_facts3 {Base : Act → Prop} {C : World → Prop} {T : World → World → Prop} {R : Nat → Act → World → Prop} {S : Nat → List Tmp} (z : Nat) (hzb : z < ops.size)
    (hbefore : ∀ (i : Nat) (o : Oper), ops[i]? = some o → ∀ e ∈ o.after, Region.binds md e = true → e.on < i)
    (hslots : ∀ (i j : Nat) (o o' : Oper), ops[i]? = some o → ops[j]? = some o' → j ≠ i → (∀ e ∈ o'.after, Region.binds md e = true → e.on ≠ i) → ∀ d, o.dst = some d → d ∉ S j)
    (hext : ∀ j a a' w w', R j a w → (∀ s ∈ S j, a'.tmps.getD s undef = a.tmps.getD s undef) → T w w' → R j a' w')
    (hbase : ∀ (i : Nat) (o : Oper), ops[i]? = some o → ∀ a v, Base a → Base (a.put o.dst v))
    (hlast : ∀ o, ops[z]? = some o → ∀ i, i < ops.size → i ≠ z → ∃ e ∈ o.after, Region.binds md e = true ∧ e.on = i)
    (hops : ∀ (i : Nat) (o : Oper), ops[i]? = some o → ∀ a w, C w → Base a → (∀ e ∈ o.after, Region.binds md e = true → R e.on a w) →
      wpOp P ops Q i (fun a' w' => ∃ v, a' = a.put o.dst v ∧ (i ≠ z → C w') ∧ T w w' ∧ R i a' w') a w)
    (hfin : ∀ a w, Base a → (∀ i, i < ops.size → R i a w) → Q .normal a w) :
    ∀ (fuel : Nat) (listed : Array Bool) (a : Act) (w : World), still ops.size listed ≤ fuel → listed.size = ops.size → (listed.getD z true = false → C w) → Base a →
      (∀ i, i < ops.size → listed.getD i true = true → R i a w ∧ ∀ o, ops[i]? = some o → ∀ e ∈ o.after, Region.binds md e = true → listed.getD e.on true = true) → wpAny P md ops Q fuel listed a w := by
  have all : ∀ (listed : Array Bool), listed.size = ops.size → Region.ready md ops listed = [] → ∀ i, i < ops.size → listed.getD i true = true := by
    intro listed hsz hr i
    induction i using Nat.strongRecOn with
    | ind i ih =>
      intro hi
      cases hl : listed.getD i true with
      | true => rfl
      | false =>
        exfalso
        have hm : i ∈ Region.ready md ops listed := by
          rw [mem_ready]
          refine ⟨hl, ops[i], by simp [hi], fun e he hb => ?_⟩
          have hlt := hbefore i ops[i] (by simp [hi]) e he hb
          have h2 := ih e.on hlt (by omega)
          have h3 : e.on < listed.size := by omega
          simp [Array.getD, h3] at h2 ⊢
          exact h2
        rw [hr] at hm; cases hm
  intro fuel
  induction fuel with
  | zero =>
    intro listed a w hst hsz hC hB hR
    have hall := still_zero (Nat.le_zero.1 hst)
    have hr : Region.ready md ops listed = [] := by
      cases h : Region.ready md ops listed with
      | nil => rfl
      | cons i l =>
        have hm : i ∈ Region.ready md ops listed := by rw [h]; exact List.mem_cons_self
        obtain ⟨h1, o, ho, _⟩ := mem_ready.1 hm
        have hi : i < ops.size := (Array.getElem?_eq_some_iff.1 ho).1
        rw [hall i hi] at h1; cases h1
    exact ⟨hr, hfin a w hB fun i hi => (hR i hi (hall i hi)).1⟩
  | succ fuel ih =>
    intro listed a w hst hsz hC hB hR
    refine ⟨fun hr => hfin a w hB fun i hi => (hR i hi (all listed hsz hr i hi)).1, fun i hi => ?_⟩
    obtain ⟨h1, o, ho, hdeps⟩ := mem_ready.1 hi
    have hin : i < ops.size := (Array.getElem?_eq_some_iff.1 ho).1
    have hdl : ∀ e ∈ o.after, Region.binds md e = true → listed.getD e.on true = true := by
      intro e he hb
      have hlt := hbefore i o ho e he hb
      have h2 := hdeps e he hb
      have h3 : e.on < listed.size := by omega
      simp [Array.getD, h3] at h2 ⊢
      exact h2
    have hCw : C w := by
      apply hC
      by_cases e : i = z
      · rw [← e]; exact h1
      · cases hz : listed.getD z true with
        | false => rfl
        | true =>
          exfalso
          by_cases hzs : z < ops.size
          · obtain ⟨_, hdz⟩ := hR z hzs hz
            obtain ⟨e', he', hb', hon⟩ := hlast ops[z] (by simp [hzs]) i hin e
            have h4 := hdz ops[z] (by simp [hzs]) e' he' hb'
            rw [hon, h1] at h4; cases h4
          · exact hzs hzb
    refine wpOp_mono ?_ (hops i o ho a w hCw hB fun e he hb => (hR e.on (by have := hbefore i o ho e he hb; omega) (hdl e he hb)).1)
    rintro a' w' ⟨v, rfl, hC', hT, hRv⟩
    have hless := still_less hin h1
    have keep : ∀ k, listed.getD k true = true → (listed.setIfInBounds i true).getD k true = true := by
      intro k hk
      by_cases e : k = i
      · subst e
        have hs : k < listed.size := by omega
        simp [Array.getD, hs]
      · rw [getD_set_ne true (Ne.symm e)]; exact hk
    refine ih _ _ _ (by omega) (by simp [hsz]) (fun hz => hC' fun e => ?_) (hbase i o ho a v hB) fun j hj hlj => ?_
    · subst e
      have hs : i < listed.size := by omega
      simp [Array.getD, hs] at hz
    by_cases e : j = i
    · subst e
      refine ⟨hRv, fun o' ho' e he hb => keep _ ?_⟩
      obtain rfl : o' = o := Option.some.inj (ho'.symm.trans ho)
      exact hdl e he hb
    · rw [getD_set_ne true (Ne.symm e)] at hlj
      obtain ⟨hRj, hdj⟩ := hR j hj hlj
      refine ⟨hext j a _ w w' hRj (fun s hs => put_slot fun x hx hxs => ?_) hT, fun o' ho' e he hb => keep _ (hdj o' ho' e he hb)⟩
      subst hxs
      refine hslots i j o ops[j] ho (by simp [hj]) e (fun e' he' hb' hne => ?_) x hx hs
      have := hdj ops[j] (by simp [hj]) e' he' hb'
      rw [hne, h1] at this; cases this

/-- does operation z come behind all others? -/
def lastB (l : List Oper) (z : Nat) : Bool := match l[z]? with
  | none => false
  | some o => (List.range l.length).all fun i => i == z || o.after.any fun e => Region.binds .any e && e.on == i
/-- .. where operations may be guarded: an operation that is not wanted leaves its slot undefined -/
theorem wp_region_list4 {id : Nat} {l : List Oper} {a : Act} {w : World} (z : Nat) (S : List (List Tmp)) (Base : Act → Prop) (C : World → Prop) (T : World → World → Prop) (R : Nat → Act → World → Prop) (hm : P.follows .mixedOrders = true)
    (hzl : z < l.length) (hzB : lastB l z = true) (hpl : planB l S = true) (hext : ∀ j a a' w w', R j a w → (∀ s ∈ S.getD j [], a'.tmps.getD s undef = a.tmps.getD s undef) → T w w' → R j a' w')
    (hbase : AllFrom (fun _ o => ∀ a v, Base a → Base (a.put o.dst v)) 0 l) (hC : C { w with drawn := w.drawn + 1 }) (hB : Base a)
    (hops : AllFrom (fun i o => ∀ a w, C w → Base a → (∀ e ∈ o.after, Region.binds .any e = true → R e.on a w) →
      if Region.wanted o (yielded l.toArray a.tmps) = true then o.wp P a w (Leaves (fun w' => i ≠ z → C w') T R i o a w) Q
      else Leaves (fun w' => i ≠ z → C w') T R i o a w (a.put o.dst undef) w) 0 l)
    (hfin : ∀ a w, Base a → (∀ i, i < l.length → R i a w) → Q .normal a w) : (Code.region id l.toArray true).wp P Q a w := by
  have hp := List.all_eq_true.1 hpl
  refine wp_region_any hm (wpAny_facts3 z (by simpa using hzl) (S := fun j => S.getD j []) (Base := Base) (C := C) (T := T) (R := R) ?_ ?_ hext hbase.all ?_
    (fun i o ho a w h1 h2 h3 => ?_)
    (fun a w h2 h3 => hfin a w h2 fun i hi => h3 i (by simpa using hi)) _ _ _ _ ?_ (by simp) (fun _ => hC) hB ?_)
  · intro i o ho e he hb
    have ho' : l[i]? = some o := by simpa using ho
    have h1 := hp i (List.mem_range.2 (List.getElem?_eq_some_iff.1 ho').1)
    simp only [ho', Bool.and_eq_true] at h1
    have h2 := (Array.all_eq_true_iff_forall_mem.1 h1.1) e he
    simpa [hb] using h2
  · intro i j o o' ho ho' hne hno d hd
    have hi : l[i]? = some o := by simpa using ho
    have hj : l[j]? = some o' := by simpa using ho'
    have h1 := hp i (List.mem_range.2 (List.getElem?_eq_some_iff.1 hi).1)
    simp only [hi, hd, Bool.and_eq_true] at h1
    have h2 := List.all_eq_true.1 h1.2 j (List.mem_range.2 (List.getElem?_eq_some_iff.1 hj).1)
    simp only [hj, Bool.or_eq_true, beq_iff_eq] at h2
    rcases h2 with h2 | h2 | h2
    · exact absurd h2 hne
    · obtain ⟨k, hk, hb⟩ := Array.any_eq_true.1 h2
      obtain ⟨e, he⟩ : ∃ e, e = o'.after[k] := ⟨_, rfl⟩
      rw [← he] at hb
      have he : e ∈ o'.after := by rw [he]; exact Array.getElem_mem hk
      simp only [Bool.and_eq_true, beq_iff_eq] at hb
      exact absurd hb.2 (hno e he hb.1)
    · intro hm
      simp at h2
      exact h2 hm
  · intro o ho i hi hne
    have ho' : l[z]? = some o := by simpa using ho
    have hi' : i < l.length := by simpa using hi
    unfold lastB at hzB
    rw [ho'] at hzB
    have h1 := List.all_eq_true.1 hzB i (List.mem_range.2 hi')
    simp only [Bool.or_eq_true, beq_iff_eq] at h1
    rcases h1 with h1 | h1
    · exact absurd h1 hne
    · obtain ⟨k, hk, hb⟩ := Array.any_eq_true.1 h1
      simp only [Bool.and_eq_true, beq_iff_eq] at hb
      exact ⟨o.after[k], Array.getElem_mem hk, hb.1, hb.2⟩
  · have h4 := hops.all i o ho a w h1 h2 h3
    unfold wpOp
    simp only [ho]
    by_cases hw : Region.wanted o (yielded l.toArray a.tmps) = true
    · rw [if_pos hw] at h4 ⊢
      exact Or.inl h4
    · rw [if_neg hw] at h4 ⊢
      exact h4
  · unfold still
    exact Nat.le_trans (List.length_filter_le _ _) (by simp)
  · intro i hi h
    have hi' : i < l.length := by simpa using hi
    simp [Array.getD] at h
    omega

end
end Go.Proofs.YtjmoecfgpfdncaaDoor
