/- Texts of one claim, merged: StL6, Near, Inv5, Inv8, StL7, Args, ArgsN, Str2. -/
import Derived.Test.YtgnjknboahcmgaaF6
import Derived.Test.YtgnjknboahcmgaaF2
import Derived.Test.YtgnjknboahcmgaaF1
import Derived.Test.YtgnjknboahcmgaaF5
import Derived.Test.YtgnjknboahcmgaaF3
import Derived.Carry
import Derived.ChangeSlices
import Derived.Lib.SmallJoins
import Derived.ShutString
import Derived.OpenShut

/- Layer 14, the laws: a list of numbers copied by append to an empty one. -/
namespace Go.Proofs.Ytgnjknboahcmgaa
set_option maxRecDepth 100000
open Go.RowKit

/-- a slice of numbers in a block of its own, from B on; or none of them -/
def OwnV (B : Nat) (w : World) (v : Value) (l : List Int) : Prop := ∃ (oa : Option Addr) (cap : Nat), v = .slice oa l.length cap ∧ (l.length ≤ cap ∧ cap ≤ maxLen) ∧ (l ≠ [] → ∃ g, oa = some ⟨g, 0, none⟩ ∧ B ≤ g ∧ RowI w g l.length cap l)
theorem OwnV.iv {B : Nat} {w : World} {v : Value} {l : List Int} (h : OwnV B w v l) : IvAt w v l := by
  obtain ⟨oa, cap, rfl, hc, hk⟩ := h
  refine ⟨oa, cap, rfl, hc, fun hne => ?_⟩
  obtain ⟨g, rfl, _, hr⟩ := hk hne
  obtain ⟨oa2, cap2, hv, _, h3⟩ := hr.iv
  obtain ⟨b, off, e, h4, h5⟩ := h3 hne
  cases hv
  cases e
  exact ⟨g, 0, rfl, h4, h5⟩
theorem OwnV.call {B : Nat} {w w' : World} {v : Value} {l : List Int} (h : OwnV B w v l) (hb : Below w.heap.size w w') : OwnV B w' v l := by
  obtain ⟨oa, cap, h1, h2, hk⟩ := h
  exact ⟨oa, cap, h1, h2, fun hne => by obtain ⟨g, e, h3, hr⟩ := hk hne; exact ⟨g, e, h3, hr.call hb⟩⟩
theorem OwnV.put {B q : Nat} {w : World} {v : Value} {l : List Int} {cs : Array Value} {t : TypeId} (h : OwnV B w v l) (hq : Blk w q cs t) (ht : 3 ≠ t) (ds : Array Value) : OwnV B (w.setRow q ds) v l := by
  obtain ⟨oa, cap, h1, h2, hk⟩ := h
  exact ⟨oa, cap, h1, h2, fun hne => by obtain ⟨g, e, h3, hr⟩ := hk hne; exact ⟨g, e, h3, hr.put hq ht ds⟩⟩
theorem OwnV.mono {B C : Nat} {w : World} {v : Value} {l : List Int} (h : OwnV B w v l) (hC : C ≤ B) : OwnV C w v l := by
  obtain ⟨oa, cap, h1, h2, hk⟩ := h
  exact ⟨oa, cap, h1, h2, fun hne => by obtain ⟨g, e, h3, hr⟩ := hk hne; exact ⟨g, e, Nat.le_trans hC h3, hr⟩⟩
theorem OwnV.one {B : Nat} {w : World} {v : Value} {l : List Int} (h : OwnV B w v l) : v.oneCell' = true := by obtain ⟨_, _, rfl, _⟩ := h; rfl

theorem run_copy (w : World) (ty : TypeId) (g : Nat) (v : Value) (l : List Int) (h : IvAt w v l) (hz : 8 * l.length ≤ 140737488355328) :
    ∃ v' w', (Builtin.append_ #[30, 30] ty #[.slice (some ⟨g, 0, none⟩) 0 0, v]).run Try.prog w = .ok v' w' ∧ OwnV w.heap.size w' v' l ∧ Below w.heap.size w w' := by
  obtain ⟨i0, hi0, hz0, hz1, hz2⟩ := info_partsX infoInt
  obtain ⟨oa, cap, rfl, hc, hk⟩ := h
  by_cases h0 : l = []
  · subst h0
    refine ⟨.slice (some ⟨g, 0, none⟩) 0 0, w, ?_, ⟨_, 0, rfl, ⟨Nat.le_refl _, Nat.zero_le _⟩, fun h => absurd rfl h⟩, Below.refl _ _⟩
    cases oa with
    | none => simp [Builtin.append_, run_underlying Try.underlying30, sizeOf, typeInfo, hi0, Builtin.lenOf, Builtin.firstCells, loadCells, loadCellsFrom, storeCells]
    | some a => simp [Builtin.append_, run_underlying Try.underlying30, sizeOf, typeInfo, hi0, Builtin.lenOf, Builtin.firstCells, loadCells, loadCellsFrom, storeCells]
  · obtain ⟨b, off, rfl, hlt, hcell⟩ := hk h0
    have hl0 : 0 < l.length := List.length_pos_iff.2 h0
    have hnews : ∀ j u, (intV l)[j]? = some u → w.cell? ((⟨b, off, none⟩ : Addr).add j) = some u := by
      intro j u hj
      rw [Addr.add_lit]
      unfold intV at hj
      rw [List.getElem?_map] at hj
      cases hh : l[j]? with
      | none => rw [hh] at hj; cases hj
      | some x =>
        rw [hh] at hj
        cases hj
        obtain ⟨h1, h2⟩ := List.getElem?_eq_some_iff.1 hh
        rw [← h2]
        exact hcell j h1
    have hlv : (intV l).length = l.length * i0.size := by rw [hz1]; unfold intV; rw [List.length_map, Nat.mul_one]
    have hfit : Builtin.nextslicecap (0 + l.length) 0 * i0.bytes ≤ 281474976710656 := by rw [hz2]; exact growslice_fits (by omega) (by omega)
    have hr := run_append_grow (P := Try.prog) w 30 ty 3 i0 (.int .i64 0) Try.underlying30 hi0 hz0 ⟨g, 0, none⟩ 0 0 [] (by simp) (fun j u hj => by simp at hj) ⟨b, off, none⟩ l.length cap (intV l) hlv hnews (by omega) (by omega) hfit
    have hge := grownCap_ge w (0 + l.length) 0 3
    have hcm := grownCap_le_maxLen w (0 + l.length) 0 3 (by unfold maxLen; omega)
    rw [Nat.zero_add] at hr hge hcm
    refine ⟨_, _, hr, ⟨_, _, rfl, ⟨hge, hcm⟩, fun _ => ⟨w.heap.size, rfl, Nat.le_refl _, rfl, ⟨hge, hcm⟩, _, Blk.new w.drew _ 3, ?_⟩⟩, (Below.refl _ _).drew.alloc (Nat.le_refl _) _⟩
    simp only [Array.toList_append]
    rw [List.append_assoc]
    simp only [List.nil_append]
    exact List.take_left' (by unfold intV; rw [List.length_map])

end Go.Proofs.Ytgnjknboahcmgaa

/- Drawn regions in long frames: as XInv6, the slots that differ told by a list. -/
namespace Go.Proofs.Ytgnjknboahcmgaa
open Go.RowKit

/-- a frame that differs from A in these slots alone -/
structure NearL (A : Act) (ds : List Nat) (a : Act) : Prop where
  size : a.tmps.size = A.tmps.size
  defers : a.defers = A.defers
  slot : ∀ j, ds.contains j = false → a.tmps.getD j undef = A.tmps.getD j undef
theorem NearL.refl (A : Act) (ds : List Nat) : NearL A ds A := ⟨rfl, rfl, fun _ _ => rfl⟩
theorem NearL.put {A a : Act} {ds : List Nat} {d : Nat} {v : Value} (h : NearL A ds a) (h1 : ds.contains d = true) : NearL A ds (a.put (some d) v) :=
  ⟨by simp [Act.put, h.size], h.defers, fun j hj => by
    have hne : d ≠ j := fun e => by rw [e, hj] at h1; cases h1
    rw [← h.slot j hj]
    simp [Act.put, Array.getD_eq_getD_getElem?, Array.getElem?_setIfInBounds_ne hne]⟩
theorem fold_set (v : Nat → Value) (j : Nat) : ∀ (ds : List Nat) (t : List Value), (ds.foldl (fun t d => t.set d (v d)) t)[j]? = if j ∈ ds ∧ j < t.length then some (v j) else t[j]?
  | [], t => by rw [if_neg (fun h => by cases h.1)]; rfl
  | d :: ds, t => by
    rw [List.foldl_cons, fold_set v j ds (t.set d (v d)), List.length_set]
    by_cases h3 : j < t.length
    · by_cases h1 : j ∈ ds
      · rw [if_pos ⟨h1, h3⟩, if_pos ⟨List.mem_cons_of_mem _ h1, h3⟩]
      · rw [if_neg (fun h => h1 h.1), List.getElem?_set]
        by_cases h2 : d = j
        · subst h2
          rw [if_pos rfl, if_pos h3, if_pos ⟨List.mem_cons_self, h3⟩]
        · rw [if_neg h2, if_neg (fun h => by rcases List.mem_cons.1 h.1 with e | e; exact h2 e.symm; exact h1 e)]
    · rw [if_neg (fun h => h3 h.2), if_neg (fun h => h3 h.2), List.getElem?_eq_none (by rw [List.length_set]; omega), List.getElem?_eq_none (by omega)]
/-- the frame is A, with what the slots hold laid into it -/
theorem NearL.puts {A a : Act} {ds : List Nat} (h : NearL A ds a) : a = ⟨(ds.foldl (fun t d => t.set d (a.tmps.getD d undef)) A.tmps.toList).toArray, A.defers⟩ := by
  obtain ⟨at', ad⟩ := a
  obtain ⟨⟨Al⟩, Ad⟩ := A
  have hd : ad = Ad := h.defers
  subst hd
  have hsz : at'.size = Al.length := h.size
  show (⟨at', ad⟩ : Act) = ⟨(ds.foldl (fun t d => t.set d (at'.getD d undef)) Al).toArray, ad⟩
  congr 1
  apply Array.ext_getElem?
  intro j
  have e2 : ∀ l : List Value, (l.toArray)[j]? = l[j]? := fun l => by simp
  refine Eq.trans ?_ (e2 _).symm
  rw [fold_set (fun d => at'.getD d undef) j ds Al]
  by_cases h2 : j < Al.length
  · by_cases h1 : j ∈ ds
    · rw [if_pos ⟨h1, h2⟩, Array.getD_eq_getD_getElem?, Array.getElem?_eq_getElem (by omega)]
      rfl
    · rw [if_neg (fun h => h1 h.1)]
      have h3 : at'.getD j undef = (⟨Al⟩ : Array Value).getD j undef := h.slot j (by simpa using h1)
      rw [Array.getD_eq_getD_getElem?, Array.getD_eq_getD_getElem?, Array.getElem?_eq_getElem (by omega), Array.getElem?_eq_getElem (show j < (⟨Al⟩ : Array Value).size from h2)] at h3
      rw [Array.getElem?_eq_getElem (by omega), List.getElem?_eq_getElem h2]
      simpa using h3
  · rw [if_neg (fun h => h2 h.2), Array.getElem?_eq_none (by omega), List.getElem?_eq_none (by omega)]

end Go.Proofs.Ytgnjknboahcmgaa

/- As XInv4, with any number of steps between an operation and the one that comes behind all others. -/
namespace Go.Proofs.Ytgnjknboahcmgaa

section
variable {P : Program} {ops : Array Oper} {Q : Exit → Act → World → Prop} {md : Region.Mode}

/-- operation k comes behind i, by edges that bind -/
inductive Reach (ops : Array Oper) (md : Region.Mode) : Nat → Nat → Prop
  | refl (k : Nat) : Reach ops md k k
  | step (k i : Nat) (o : Oper) (e : Edge) (ho : ops[k]? = some o) (he : e ∈ o.after) (hb : Region.binds md e = true) (hr : Reach ops md e.on i) : Reach ops md k i
theorem Reach.listed {listed : Array Bool} (hcl : ∀ (k : Nat) (o : Oper), ops[k]? = some o → listed.getD k true = true → ∀ e ∈ o.after, Region.binds md e = true → listed.getD e.on true = true) {k i : Nat} (h : Reach ops md k i) : listed.getD k true = true → listed.getD i true = true := by
  induction h with
  | refl => exact fun h => h
  | step k i o e ho he hb _ ih => exact fun hk => ih (hcl k o ho hk e he hb)
/-- the same, reckoned, in at most so many steps -/
def reachB (l : List Oper) : Nat → Nat → Nat → Bool
  | 0, k, i => k == i
  | n + 1, k, i => k == i || match l[k]? with
    | none => false
    | some o => o.after.any fun e => Region.binds .any e && reachB l n e.on i
theorem reachB.reach {l : List Oper} : ∀ (n k i : Nat), reachB l n k i = true → Reach l.toArray .any k i
  | 0, k, i, h => by
    simp only [reachB, beq_iff_eq] at h
    subst h; exact Reach.refl _
  | n + 1, k, i, h => by
    simp only [reachB, Bool.or_eq_true, beq_iff_eq] at h
    rcases h with h | h
    · subst h; exact Reach.refl _
    · cases ho : l[k]? with
      | none => rw [ho] at h; cases h
      | some o =>
        rw [ho] at h
        obtain ⟨j, hj, hb⟩ := Array.any_eq_true.1 h
        simp only [Bool.and_eq_true] at hb
        exact Reach.step k i o o.after[j] (by simpa using ho) (Array.getElem_mem hj) hb.1 (reachB.reach n _ i hb.2)
end
end Go.Proofs.Ytgnjknboahcmgaa

/- As XInv7, where what holds may ask whether one operation (z) has been: those that come ahead of it know that it has not. -/
namespace Go.Proofs.Ytgnjknboahcmgaa

section
variable {P : Program} {ops : Array Oper} {Q : Exit → Act → World → Prop} {md : Region.Mode}

theorem wpAny_facts2Z {Base : Act → Prop} {C : Bool → Act → World → Prop} {T : World → World → Prop} {R : Nat → Act → World → Prop} {S : Nat → List Tmp} (z : Nat) (Pre : Nat → Bool) (hzb : z < ops.size)
    (hpre : ∀ i, Pre i = true → i < ops.size → Reach ops md z i)
    (hbefore : ∀ (i : Nat) (o : Oper), ops[i]? = some o → ∀ e ∈ o.after, Region.binds md e = true → e.on < i)
    (hslots : ∀ (i j : Nat) (o o' : Oper), ops[i]? = some o → ops[j]? = some o' → j ≠ i → (∀ e ∈ o'.after, Region.binds md e = true → e.on ≠ i) → ∀ d, o.dst = some d → d ∉ S j)
    (hext : ∀ j a a' w w', R j a w → (∀ s ∈ S j, a'.tmps.getD s undef = a.tmps.getD s undef) → T w w' → R j a' w')
    (hbase : ∀ (i : Nat) (o : Oper), ops[i]? = some o → ∀ a v, Base a → Base (a.put o.dst v))
    (hops : ∀ (i : Nat) (o : Oper), ops[i]? = some o → ∀ b a w, (Pre i = true → b = false) → C b a w → Base a → (∀ e ∈ o.after, Region.binds md e = true → R e.on a w) →
      wpOp P ops Q i (fun a' w' => ∃ v, a' = a.put o.dst v ∧ C (b || i == z) a' w' ∧ T w w' ∧ R i a' w') a w)
    (hfin : ∀ a w, C true a w → Base a → (∀ i, i < ops.size → R i a w) → Q .normal a w) :
    ∀ (fuel : Nat) (listed : Array Bool) (a : Act) (w : World), still ops.size listed ≤ fuel → listed.size = ops.size → C (listed.getD z true) a w → Base a →
      (∀ i, i < ops.size → listed.getD i true = true → R i a w ∧ ∀ o, ops[i]? = some o → ∀ e ∈ o.after, Region.binds md e = true → listed.getD e.on true = true) → wpAny P md ops Q fuel listed a w := by
  have all : ∀ (listed : Array Bool), listed.size = ops.size → Region.ready md ops listed = [] → ∀ i, i < ops.size → listed.getD i true = true := by
    intro listed hsz hr i
    induction i using Nat.strongRecOn with
    | ind i ih =>
      intro hi
      cases hl : listed.getD i true with
      | true => rfl
      | false =>
        exfalso
        have hm : i ∈ Region.ready md ops listed := by
          rw [mem_ready]
          refine ⟨hl, ops[i], by simp [hi], fun e he hb => ?_⟩
          have hlt := hbefore i ops[i] (by simp [hi]) e he hb
          have h2 := ih e.on hlt (by omega)
          have h3 : e.on < listed.size := by omega
          simp [Array.getD, h3] at h2 ⊢
          exact h2
        rw [hr] at hm; cases hm
  intro fuel
  induction fuel with
  | zero =>
    intro listed a w hst hsz hC hB hR
    have hall := still_zero (Nat.le_zero.1 hst)
    have hr : Region.ready md ops listed = [] := by
      cases h : Region.ready md ops listed with
      | nil => rfl
      | cons i l =>
        have hm : i ∈ Region.ready md ops listed := by rw [h]; exact List.mem_cons_self
        obtain ⟨h1, o, ho, _⟩ := mem_ready.1 hm
        have hi : i < ops.size := (Array.getElem?_eq_some_iff.1 ho).1
        rw [hall i hi] at h1; cases h1
    rw [hall z hzb] at hC
    exact ⟨hr, hfin a w hC hB fun i hi => (hR i hi (hall i hi)).1⟩
  | succ fuel ih =>
    intro listed a w hst hsz hC hB hR
    refine ⟨fun hr => hfin a w (by rw [all listed hsz hr z hzb] at hC; exact hC) hB fun i hi => (hR i hi (all listed hsz hr i hi)).1, fun i hi => ?_⟩
    obtain ⟨h1, o, ho, hdeps⟩ := mem_ready.1 hi
    have hin : i < ops.size := (Array.getElem?_eq_some_iff.1 ho).1
    have hdl : ∀ e ∈ o.after, Region.binds md e = true → listed.getD e.on true = true := by
      intro e he hb
      have hlt := hbefore i o ho e he hb
      have h2 := hdeps e he hb
      have h3 : e.on < listed.size := by omega
      simp [Array.getD, h3] at h2 ⊢
      exact h2
    refine wpOp_mono ?_ (hops i o ho (listed.getD z true) a w (fun hp => by
      cases hz : listed.getD z true with
      | false => rfl
      | true =>
        exfalso
        have hcl : ∀ (k : Nat) (o : Oper), ops[k]? = some o → listed.getD k true = true → ∀ e ∈ o.after, Region.binds md e = true → listed.getD e.on true = true := fun k o ho' hk e' he' hb' => (hR k (Array.getElem?_eq_some_iff.1 ho').1 hk).2 o ho' e' he' hb'
        have h4 := (hpre i hp hin).listed hcl hz
        rw [h1] at h4; cases h4) hC hB fun e he hb => (hR e.on (by have := hbefore i o ho e he hb; omega) (hdl e he hb)).1)
    rintro a' w' ⟨v, rfl, hC', hT, hRv⟩
    have hless := still_less hin h1
    have keep : ∀ k, listed.getD k true = true → (listed.setIfInBounds i true).getD k true = true := by
      intro k hk
      by_cases e : k = i
      · subst e
        have hs : k < listed.size := by omega
        simp [Array.getD, hs]
      · rw [getD_set_ne true (Ne.symm e)]; exact hk
    have hCn : (listed.setIfInBounds i true).getD z true = (listed.getD z true || i == z) := by
      by_cases e : i = z
      · subst e
        have hs : i < listed.size := by omega
        simp [Array.getD, hs]
      · rw [getD_set_ne true e]; simp [e]
    rw [← hCn] at hC'
    refine ih _ _ _ (by omega) (by simp [hsz]) hC' (hbase i o ho a v hB) fun j hj hlj => ?_
    by_cases e : j = i
    · subst e
      refine ⟨hRv, fun o' ho' e he hb => keep _ ?_⟩
      obtain rfl : o' = o := Option.some.inj (ho'.symm.trans ho)
      exact hdl e he hb
    · rw [getD_set_ne true (Ne.symm e)] at hlj
      obtain ⟨hRj, hdj⟩ := hR j hj hlj
      refine ⟨hext j a _ w w' hRj (fun s hs => put_slot fun x hx hxs => ?_) hT, fun o' ho' e he hb => keep _ (hdj o' ho' e he hb)⟩
      subst hxs
      refine hslots i j o ops[j] ho (by simp [hj]) e (fun e' he' hb' hne => ?_) x hx hs
      have := hdj ops[j] (by simp [hj]) e' he' hb'
      rw [hne, h1] at this; cases this

/-- do all of these come ahead of operation z? -/
def preB (l : List Oper) (z : Nat) (Pre : Nat → Bool) : Bool := (List.range l.length).all fun i => !Pre i || reachB l 8 z i
/-- what an operation leaves: its slot written, the world in the class and gone on, its own fact -/
def LeavesZ (C : Bool → Act → World → Prop) (z : Nat) (b : Bool) (T : World → World → Prop) (R : Nat → Act → World → Prop) (i : Nat) (o : Oper) (a : Act) (w : World) (a' : Act) (w' : World) : Prop := ∃ v, a' = a.put o.dst v ∧ C (b || i == z) a' w' ∧ T w w' ∧ R i a' w'
/-- .. where operations may be guarded: an operation that is not wanted leaves its slot undefined -/
theorem wp_region_list3Z {id : Nat} {l : List Oper} {a : Act} {w : World} (z : Nat) (Pre : Nat → Bool) (S : List (List Tmp)) (Base : Act → Prop) (C : Bool → Act → World → Prop) (T : World → World → Prop) (R : Nat → Act → World → Prop) (hm : P.follows .mixedOrders = true)
    (hzl : z < l.length) (hpB : preB l z Pre = true) (hpl : planB l S = true) (hext : ∀ j a a' w w', R j a w → (∀ s ∈ S.getD j [], a'.tmps.getD s undef = a.tmps.getD s undef) → T w w' → R j a' w')
    (hbase : AllFrom (fun _ o => ∀ a v, Base a → Base (a.put o.dst v)) 0 l) (hC : C false a { w with drawn := w.drawn + 1 }) (hB : Base a)
    (hops : AllFrom (fun i o => ∀ b a w, (Pre i = true → b = false) → C b a w → Base a → (∀ e ∈ o.after, Region.binds .any e = true → R e.on a w) →
      if Region.wanted o (yielded l.toArray a.tmps) = true then o.wp P a w (LeavesZ C z b T R i o a w) Q
      else LeavesZ C z b T R i o a w (a.put o.dst undef) w) 0 l)
    (hfin : ∀ a w, C true a w → Base a → (∀ i, i < l.length → R i a w) → Q .normal a w) : (Code.region id l.toArray true).wp P Q a w := by
  have hp := List.all_eq_true.1 hpl
  refine wp_region_any hm (wpAny_facts2Z z Pre (by simpa using hzl) ?_ (S := fun j => S.getD j []) (Base := Base) (C := C) (T := T) (R := R) ?_ ?_ hext hbase.all
    (fun i o ho b a w h0 h1 h2 h3 => ?_)
    (fun a w h1 h2 h3 => hfin a w h1 h2 fun i hi => h3 i (by simpa using hi)) _ _ _ _ ?_ (by simp) (by simpa [Array.getD, hzl] using hC) hB ?_)
  · intro i hp hi
    have hi' : i < l.length := by simpa using hi
    unfold preB at hpB
    have h1 := List.all_eq_true.1 hpB i (List.mem_range.2 hi')
    rw [hp] at h1
    simp only [Bool.not_true, Bool.false_or] at h1
    exact reachB.reach 8 z i h1
  · intro i o ho e he hb
    have ho' : l[i]? = some o := by simpa using ho
    have h1 := hp i (List.mem_range.2 (List.getElem?_eq_some_iff.1 ho').1)
    simp only [ho', Bool.and_eq_true] at h1
    have h2 := (Array.all_eq_true_iff_forall_mem.1 h1.1) e he
    simpa [hb] using h2
  · intro i j o o' ho ho' hne hno d hd
    have hi : l[i]? = some o := by simpa using ho
    have hj : l[j]? = some o' := by simpa using ho'
    have h1 := hp i (List.mem_range.2 (List.getElem?_eq_some_iff.1 hi).1)
    simp only [hi, hd, Bool.and_eq_true] at h1
    have h2 := List.all_eq_true.1 h1.2 j (List.mem_range.2 (List.getElem?_eq_some_iff.1 hj).1)
    simp only [hj, Bool.or_eq_true, beq_iff_eq] at h2
    rcases h2 with h2 | h2 | h2
    · exact absurd h2 hne
    · obtain ⟨k, hk, hb⟩ := Array.any_eq_true.1 h2
      obtain ⟨e, he⟩ : ∃ e, e = o'.after[k] := ⟨_, rfl⟩
      rw [← he] at hb
      have he : e ∈ o'.after := by rw [he]; exact Array.getElem_mem hk
      simp only [Bool.and_eq_true, beq_iff_eq] at hb
      exact absurd hb.2 (hno e he hb.1)
    · intro hm
      simp at h2
      exact h2 hm
  · have h4 := hops.all i o ho b a w h0 h1 h2 h3
    unfold wpOp
    simp only [ho]
    by_cases hw : Region.wanted o (yielded l.toArray a.tmps) = true
    · rw [if_pos hw] at h4 ⊢
      exact Or.inl h4
    · rw [if_neg hw] at h4 ⊢
      exact h4
  · unfold still
    exact Nat.le_trans (List.length_filter_le _ _) (by simp)
  · intro i hi h
    have hi' : i < l.length := by simpa using hi
    simp [Array.getD] at h
    omega

end
end Go.Proofs.Ytgnjknboahcmgaa

/- Layer 14, the laws: StateOf. -/
namespace Go.Proofs.Ytgnjknboahcmgaa
set_option maxRecDepth 100000
open Go.RowKit

theorem wp_copy {o : Oper} {a : Act} {w : World} {K : Act → World → Prop} {Q : Exit → Act → World → Prop} (s x : Operand) (ho : o.op = .call { callee := .builtin .append, args := #[s, x], argTypes := #[30, 30] })
    (g : Nat) (hs : a.eval s = .slice (some ⟨g, 0, none⟩) 0 0) (v : Value) (l : List Int) (hx : a.eval x = v) (h : IvAt w v l) (hz : 8 * l.length ≤ 140737488355328)
    (hk : ∀ oa cap w', OwnV w.heap.size w' (.slice oa l.length cap) l → Below w.heap.size w w' → K (a.put o.dst (.slice oa l.length cap)) w') : o.wp Try.prog a w K Q := by
  obtain ⟨v', w', hr, ho2, hb⟩ := run_copy w o.type g v l h hz
  have h2 := ho2
  obtain ⟨oa, cap, rfl, _⟩ := ho2
  unfold Oper.wp execOp
  simp only [ho, resolve, invoke, builtin, Sem.run_bind, Sem.run_pure, Result.andThen_ok, List.map_toArray, List.map_cons, List.map_nil, hs, hx, hr]
  exact hk _ _ _ h2 hb
theorem build_state4 (o0 o1 o2 o3 : Option Addr) (n0 n1 n2 n3 k0 k1 k2 k3 : Nat) (w : World) : (Instr.build 32 #[(0, .slice o0 n0 k0), (1, .slice o1 n1 k1), (2, .slice o2 n2 k2), (3, .slice o3 n3 k3)]).run Try.prog w = .ok (.agg #[.slice o0 n0 k0, .slice o1 n1 k1, .slice o2 n2 k2, .slice o3 n3 k3]) w := by kernel_rfl
theorem wp_build_state {o : Oper} {a : Act} {w : World} {K : Act → World → Prop} {Q : Exit → Act → World → Prop} (t0 t1 t2 t3 : Operand) (ho : o.op = .build 32 #[(0, t0), (1, t1), (2, t2), (3, t3)])
    (o0 o1 o2 o3 : Option Addr) (n0 n1 n2 n3 k0 k1 k2 k3 : Nat) (h0 : a.eval t0 = .slice o0 n0 k0) (h1 : a.eval t1 = .slice o1 n1 k1) (h2 : a.eval t2 = .slice o2 n2 k2) (h3 : a.eval t3 = .slice o3 n3 k3)
    (h : K (a.put o.dst (.agg #[.slice o0 n0 k0, .slice o1 n1 k1, .slice o2 n2 k2, .slice o3 n3 k3])) w) : o.wp Try.prog a w K Q := by
  have hb := build_state4 o0 o1 o2 o3 n0 n1 n2 n3 k0 k1 k2 k3 w
  unfold Oper.wp execOp
  simp only [ho, List.map_toArray, List.map_cons, List.map_nil, h0, h1, h2, h3, Sem.run_bind, hb, Result.andThen_ok, Sem.run_pure]
  exact h
/-- block q, of what is durable -/
def BxQ (q : Nat) (w : World) : Prop := ∃ cs : Array Value, Blk w q cs 32 ∧ cs.size = 4
/-- it holds copies, each in a block of its own -/
def OfQ (B : Nat) (x : Sn) (q : Nat) (w : World) : Prop := ∃ o0 o1 o2 o3 k0 k1 k2 k3, Blk w q #[.slice o0 x.f.length k0, .slice o1 x.c.length k1, .slice o2 x.s.length k2, .slice o3 x.t.length k3] 32 ∧ OwnV B w (.slice o0 x.f.length k0) x.f ∧ OwnV B w (.slice o1 x.c.length k1) x.c ∧ OwnV B w (.slice o2 x.s.length k2) x.s ∧ OwnV B w (.slice o3 x.t.length k3) x.t
def TC (B : Nat) (x : Sn) (w w' : World) : Prop := (∀ v l, OwnV B w v l → OwnV B w' v l) ∧ (∀ q, BxQ q w → BxQ q w') ∧ ∀ q, OfQ B x q w → OfQ B x q w'
theorem TC.refl (B : Nat) (x : Sn) (w : World) : TC B x w w := ⟨fun _ _ h => h, fun _ h => h, fun _ h => h⟩
theorem TC.call {B : Nat} {x : Sn} {w w' : World} (hb : Below w.heap.size w w') : TC B x w w' :=
  ⟨fun _ _ h => h.call hb, fun _ ⟨cs, h1, h2⟩ => ⟨cs, h1.after hb, h2⟩, fun _ ⟨o0, o1, o2, o3, k0, k1, k2, k3, h0, h1, h2, h3, h4⟩ => ⟨o0, o1, o2, o3, k0, k1, k2, k3, h0.after hb, h1.call hb, h2.call hb, h3.call hb, h4.call hb⟩⟩
theorem OfQ.mk {B q : Nat} {x : Sn} {w : World} {cs : Array Value} {o0 o1 o2 o3 : Option Addr} {k0 k1 k2 k3 : Nat} (hq : Blk w q cs 32) (h : OwnV B w (.slice o0 x.f.length k0) x.f ∧ OwnV B w (.slice o1 x.c.length k1) x.c ∧ OwnV B w (.slice o2 x.s.length k2) x.s ∧ OwnV B w (.slice o3 x.t.length k3) x.t) : OfQ B x q (w.setRow q #[.slice o0 x.f.length k0, .slice o1 x.c.length k1, .slice o2 x.s.length k2, .slice o3 x.t.length k3]) :=
  ⟨o0, o1, o2, o3, k0, k1, k2, k3, hq.put _, h.1.put hq (by decide) _, h.2.1.put hq (by decide) _, h.2.2.1.put hq (by decide) _, h.2.2.2.put hq (by decide) _⟩
theorem TC.store {B q : Nat} {x : Sn} {w : World} {cs : Array Value} {o0 o1 o2 o3 : Option Addr} {k0 k1 k2 k3 : Nat} (hq : Blk w q cs 32) (_ : cs.size = 4) (h : OwnV B w (.slice o0 x.f.length k0) x.f ∧ OwnV B w (.slice o1 x.c.length k1) x.c ∧ OwnV B w (.slice o2 x.s.length k2) x.s ∧ OwnV B w (.slice o3 x.t.length k3) x.t) : TC B x w (w.setRow q #[.slice o0 x.f.length k0, .slice o1 x.c.length k1, .slice o2 x.s.length k2, .slice o3 x.t.length k3]) := by
  refine ⟨fun _ _ h => h.put hq (by decide) _, fun p ⟨ds, h1, h2⟩ => ?_, fun p hp => ?_⟩
  · by_cases e : q = p
    · subst e; exact ⟨_, h1.put _, rfl⟩
    · exact ⟨ds, h1.put_other e _, h2⟩
  · by_cases e : q = p
    · subst e; exact OfQ.mk hq h
    · obtain ⟨p0, p1, p2, p3, j0, j1, j2, j3, h0, h1, h2, h3, h4⟩ := hp
      exact ⟨p0, p1, p2, p3, j0, j1, j2, j3, h0.put_other e _, h1.put hq (by decide) _, h2.put hq (by decide) _, h3.put hq (by decide) _, h4.put hq (by decide) _⟩
/-- what each operation of region 3 leaves -/
def SpCP (B : Nat) (x : Sn) (j : Nat) (a : Act) (w : World) : Prop := match j with
  | 0 => ∃ g, a.tmps.getD 23 undef = .slice (some ⟨g, 0, none⟩) 0 0
  | 3 => ∃ o k, a.tmps.getD 26 undef = .slice o x.f.length k ∧ OwnV B w (.slice o x.f.length k) x.f
  | 4 => ∃ g, a.tmps.getD 27 undef = .slice (some ⟨g, 0, none⟩) 0 0
  | 7 => ∃ o k, a.tmps.getD 30 undef = .slice o x.c.length k ∧ OwnV B w (.slice o x.c.length k) x.c
  | 8 => ∃ g, a.tmps.getD 31 undef = .slice (some ⟨g, 0, none⟩) 0 0
  | 11 => ∃ o k, a.tmps.getD 34 undef = .slice o x.s.length k ∧ OwnV B w (.slice o x.s.length k) x.s
  | 12 => ∃ g, a.tmps.getD 35 undef = .slice (some ⟨g, 0, none⟩) 0 0
  | 15 => ∃ o k, a.tmps.getD 38 undef = .slice o x.t.length k ∧ OwnV B w (.slice o x.t.length k) x.t
  | 16 => ∃ o0 o1 o2 o3 k0 k1 k2 k3, a.tmps.getD 39 undef = .agg #[.slice o0 x.f.length k0, .slice o1 x.c.length k1, .slice o2 x.s.length k2, .slice o3 x.t.length k3] ∧ OwnV B w (.slice o0 x.f.length k0) x.f ∧ OwnV B w (.slice o1 x.c.length k1) x.c ∧ OwnV B w (.slice o2 x.s.length k2) x.s ∧ OwnV B w (.slice o3 x.t.length k3) x.t
  | 17 => ∃ q, a.tmps.getD 7 undef = .pointer (some ⟨q, 0, none⟩) ∧ B ≤ q ∧ BxQ q w
  | _ => ∃ q, a.tmps.getD 7 undef = .pointer (some ⟨q, 0, none⟩) ∧ B ≤ q ∧ OfQ B x q w
def fCP (j : Nat) : List Tmp := if j = 0 then [23] else if j = 3 then [26] else if j = 4 then [27] else if j = 7 then [30] else if j = 8 then [31] else if j = 11 then [34] else if j = 12 then [35] else if j = 15 then [38] else if j = 16 then [39] else [7]
theorem SpCP.ext (B : Nat) (x : Sn) : ∀ (j : Nat) (a a' : Act) (w w' : World), SpCP B x j a w → (∀ d ∈ fCP j, a'.tmps.getD d undef = a.tmps.getD d undef) → TC B x w w' → SpCP B x j a' w' := by
  intro j a a' w w' h hd hT
  unfold SpCP at h ⊢
  split at h
  · obtain ⟨g, h1⟩ := h; exact ⟨g, (hd 23 (by simp [fCP])).trans h1⟩
  · obtain ⟨o, k, h1, h2⟩ := h; exact ⟨o, k, (hd 26 (by simp [fCP])).trans h1, hT.1 _ _ h2⟩
  · obtain ⟨g, h1⟩ := h; exact ⟨g, (hd 27 (by simp [fCP])).trans h1⟩
  · obtain ⟨o, k, h1, h2⟩ := h; exact ⟨o, k, (hd 30 (by simp [fCP])).trans h1, hT.1 _ _ h2⟩
  · obtain ⟨g, h1⟩ := h; exact ⟨g, (hd 31 (by simp [fCP])).trans h1⟩
  · obtain ⟨o, k, h1, h2⟩ := h; exact ⟨o, k, (hd 34 (by simp [fCP])).trans h1, hT.1 _ _ h2⟩
  · obtain ⟨g, h1⟩ := h; exact ⟨g, (hd 35 (by simp [fCP])).trans h1⟩
  · obtain ⟨o, k, h1, h2⟩ := h; exact ⟨o, k, (hd 38 (by simp [fCP])).trans h1, hT.1 _ _ h2⟩
  · obtain ⟨o0, o1, o2, o3, k0, k1, k2, k3, h1, r0, r1, r2, r3⟩ := h
    exact ⟨o0, o1, o2, o3, k0, k1, k2, k3, (hd 39 (by simp [fCP])).trans h1, hT.1 _ _ r0, hT.1 _ _ r1, hT.1 _ _ r2, hT.1 _ _ r3⟩
  · obtain ⟨q, h1, h2, h3⟩ := h; exact ⟨q, (hd 7 (by simp [fCP])).trans h1, h2, hT.2.1 _ h3⟩
  · rename_i n1 n2 n3 n4 n5 n6 n7 n8 n9 n10
    obtain ⟨q, h1, h2, h3⟩ := h
    refine ⟨q, (hd 7 ?_).trans h1, h2, hT.2.2 _ h3⟩
    unfold fCP
    rw [if_neg n1, if_neg n2, if_neg n3, if_neg n4, if_neg n5, if_neg n6, if_neg n7, if_neg n8, if_neg n9]
    exact List.mem_singleton.2 rfl

/-- what each operation of the region CP leaves -/
def vsCP (q1 : Nat) (vf vc vs vt : Value) : List (Option (Tmp × Value)) :=
  [none, some (24, .pointer (some ⟨q1, 0, none⟩)), some (25, vf), none, none, some (28, .pointer (some ⟨q1, 1, none⟩)), some (29, vc), none, none, some (32, .pointer (some ⟨q1, 2, none⟩)), some (33, vs), none, none, some (36, .pointer (some ⟨q1, 3, none⟩)), some (37, vt), none, none, none, none]

theorem SnG.outO {J0 J1 : Nat} {w w' : World} {A : Array Value} {x : Sn} (h : SnG J0 J1 w A x) (ho : Out J0 J1 w w') : SnG J0 J1 w' A x :=
  h.keep ho.1.size fun b hl hb => by
    rcases hb with hb | hb
    · exact ho.1.block b hb
    · exact ho.2 b hb hl
/-- State of a keeper with so many numbers -/
theorem kp_stateO {K0 K1 o n b : Nat} {x : Sn} {w : World} (h : Kp K0 K1 w o x) (hn : x.f.length = n) (hb : x.c.length = b) (hz : n ≤ 1000000 ∧ b ≤ 1000000) : Calls Try.prog 13 #[.pointer (some ⟨o, 0, none⟩)] w (StT n b x w) := by
  obtain ⟨K, h⟩ := h
  have h1 := h.len
  obtain rfl : K.n = n := by omega
  obtain rfl : K.b = b := by omega
  exact st_state K0 K1 o K x w h hz
theorem XsB.atO {K0 : Nat} {w : World} {oa : Option Addr} {l : List Rc} (h : XsB K0 w oa l) (hK : K0 ≤ w.heap.size) : XsAt w oa l := fun hl => by
  obtain ⟨b, off, ho, hlt, hc⟩ := h hl
  exact ⟨b, off, ho, by omega, hc⟩
theorem al_isO {K0 K1 o : Nat} {x : Sn} {oa : Option Addr} {cap M : Nat} {l : List Rc} {w : World} (h : Kp K0 K1 w o x) (hB : CntB x) (hl : l.length = M) (hM : M ≤ 1000000) (hr : XsB K0 w oa l) :
    Calls Try.prog 16 #[.pointer (some ⟨o, 0, none⟩), .slice oa M cap] w fun e w' => e = .returned (.int .i64 (allE x l)) ∧ Kp K0 K1 w' o (allX x l) ∧ Out K0 K1 w w' := by
  obtain ⟨K, h⟩ := h
  subst hl
  refine (st_all K0 K1 o K x oa cap l w h hB hM hr).mono ?_
  rintro e w' ⟨h1, h2, h3⟩
  exact ⟨h1, ⟨K, h2⟩, h3⟩
theorem allX_lenO : ∀ (l : List Rc) (x : Sn), LenE (allX x l) x
  | [], x => ⟨rfl, rfl, rfl, rfl⟩
  | r :: l, x => by
    unfold allX
    split
    · obtain ⟨e1, e2, e3, e4⟩ := allX_lenO l (chgX x r)
      obtain ⟨f1, f2, f3, f4⟩ := LenE.chg x r
      exact ⟨e1.trans f1, e2.trans f2, e3.trans f3, e4.trans f4⟩
    · exact ⟨rfl, rfl, rfl, rfl⟩
/-- the reference's world beside the keeper -/
def ScW (w0 : World) (J0 J1 q1 t9 : Nat) (oa : Option Addr) (rs : List Rc) (x zz : Sn) (A A2 : Array Value) (w : World) : Prop :=
  SnG J0 J1 w A x ∧ Blk w q1 A 32 ∧ SnG J0 J1 w A2 zz ∧ Blk w t9 A2 32 ∧ XsB J0 w oa rs ∧ Below w0.heap.size w0 w ∧ (w0.heap.size ≤ J0 ∧ q1 < J0 ∧ J0 ≤ J1 ∧ J1 ≤ t9 ∧ J1 ≤ w.heap.size)
theorem ScW.call {w0 w w' : World} {J0 J1 q1 t9 : Nat} {oa : Option Addr} {rs : List Rc} {x zz : Sn} {A A2 : Array Value} (h : ScW w0 J0 J1 q1 t9 oa rs x zz A A2 w) (hb : Below w.heap.size w w') : ScW w0 J0 J1 q1 t9 oa rs x zz A A2 w' := by
  obtain ⟨h1, h2, h3, h4, h5, h6, h7⟩ := h
  have := hb.size
  exact ⟨h1.below hb, h2.after hb, h3.below hb, h4.after hb, h5.keep (hb.mono (by omega)), h6.trans (hb.mono h6.size), by omega⟩
theorem ScW.out {w0 w w' : World} {J0 J1 q1 t9 : Nat} {oa : Option Addr} {rs : List Rc} {x zz : Sn} {A A2 : Array Value} (h : ScW w0 J0 J1 q1 t9 oa rs x zz A A2 w) (ho : Out J0 J1 w w') : ScW w0 J0 J1 q1 t9 oa rs x zz A A2 w' := by
  obtain ⟨h1, h2, h3, h4, h5, h6, h7⟩ := h
  have := ho.1.size
  exact ⟨h1.outO ho, h2.out ho (Or.inl (by omega)), h3.outO ho, h4.out ho (Or.inr (by omega)), h5.keep ho.1, h6.trans (ho.1.mono (by omega)), by omega⟩
def TB (J0 J1 o n b : Nat) (_ zz : Sn) (w w' : World) : Prop := (Kp J0 J1 w o zz → Kp J0 J1 w' o zz) ∧ ∀ y g0 g1 g2 g3 k0 k1 k2 k3, Rw4 J1 g0 g1 g2 g3 k0 k1 k2 k3 n b y w → Rw4 J1 g0 g1 g2 g3 k0 k1 k2 k3 n b y w'
theorem TB.refl (J0 J1 o n b : Nat) (x zz : Sn) (w : World) : TB J0 J1 o n b x zz w w := ⟨fun h => h, fun _ _ _ _ _ _ _ _ _ h => h⟩
theorem TB.call {J0 J1 o n b : Nat} {x zz : Sn} {w w' : World} (hb : Below w.heap.size w w') : TB J0 J1 o n b x zz w w' := ⟨fun h => h.call hb, fun _ _ _ _ _ _ _ _ _ h => h.call hb⟩
theorem TB.outs {J0 J1 o n b : Nat} {x zz : Sn} {w w' : World} (ho : Out J0 J1 w w') (hk : Kp J0 J1 w' o zz) : TB J0 J1 o n b x zz w w' := ⟨fun _ => hk, fun _ _ _ _ _ _ _ _ _ h => h.out ho (Nat.le_refl _)⟩
def SpSB (J0 J1 o n b : Nat) (x zz : Sn) (ec : Int) (j : Nat) (a : Act) (w : World) : Prop := match j with
  | 1 => ∃ g0 g1 g2 g3 k0 k1 k2 k3, a.tmps.getD 78 undef = .agg (kpV g0 g1 g2 g3 k0 k1 k2 k3 n b) ∧ Rw4 J1 g0 g1 g2 g3 k0 k1 k2 k3 n b x w
  | 7 => a.tmps.getD 84 undef = .int .i64 ec ∧ Kp J0 J1 w o zz
  | 9 => a.tmps.getD 86 undef = .bool true ∧ Kp J0 J1 w o zz
  | 10 => a.tmps.getD 87 undef = .bool true ∧ Kp J0 J1 w o zz
  | 11 => a.tmps.getD 88 undef = .bool true ∧ Kp J0 J1 w o zz
  | 13 => ∃ g0 g1 g2 g3 k0 k1 k2 k3, a.tmps.getD 90 undef = .agg (kpV g0 g1 g2 g3 k0 k1 k2 k3 n b) ∧ Rw4 J1 g0 g1 g2 g3 k0 k1 k2 k3 n b zz w
  | _ => True
def fSB (j : Nat) : List Tmp := if j = 1 then [78] else if j = 7 then [84] else if j = 9 then [86] else if j = 10 then [87] else if j = 11 then [88] else [90]
theorem SpSB.ext (J0 J1 o n b : Nat) (x zz : Sn) (ec : Int) : ∀ (j : Nat) (a a' : Act) (w w' : World), SpSB J0 J1 o n b x zz ec j a w → (∀ d ∈ fSB j, a'.tmps.getD d undef = a.tmps.getD d undef) → TB J0 J1 o n b x zz w w' → SpSB J0 J1 o n b x zz ec j a' w' := by
  intro j a a' w w' h hd hT
  unfold SpSB at h ⊢
  split at h
  · obtain ⟨g0, g1, g2, g3, k0, k1, k2, k3, h1, h2⟩ := h
    exact ⟨g0, g1, g2, g3, k0, k1, k2, k3, (hd 78 (by simp [fSB])).trans h1, hT.2 _ _ _ _ _ _ _ _ _ h2⟩
  · exact ⟨(hd 84 (by simp [fSB])).trans h.1, hT.1 h.2⟩
  · exact ⟨(hd 86 (by simp [fSB])).trans h.1, hT.1 h.2⟩
  · exact ⟨(hd 87 (by simp [fSB])).trans h.1, hT.1 h.2⟩
  · exact ⟨(hd 88 (by simp [fSB])).trans h.1, hT.1 h.2⟩
  · obtain ⟨g0, g1, g2, g3, k0, k1, k2, k3, h1, h2⟩ := h
    exact ⟨g0, g1, g2, g3, k0, k1, k2, k3, (hd 90 (by simp [fSB])).trans h1, hT.2 _ _ _ _ _ _ _ _ _ h2⟩
  · trivial

/-- what each operation of the region SB leaves -/
def vsSB (o L cap : Nat) (oa : Option Addr) (AS A2 : Array Value) (ec : Int) : List (Option (Tmp × Value)) :=
  [some (77, .pointer (some ⟨o, 0, none⟩)), none, some (79, .agg AS), some (80, .bool true), some (81, .bool true), some (82, .pointer (some ⟨o, 0, none⟩)), some (83, .slice oa L cap), none, some (85, .int .i64 ec), none, none, none, some (89, .pointer (some ⟨o, 0, none⟩)), none, some (91, .agg A2), some (92, .bool true), some (93, .bool true), some (94, .bool true), some (95, .bool true), some (96, .bool true), some (6, .bool true)]

theorem ownv_some {B n : Nat} {w : World} {oa : Option Addr} {k : Nat} {l : List Int} (h : OwnV B w (.slice oa l.length k) l) (hl : l.length = n) (hn : 1 ≤ n) : ∃ g, oa = some ⟨g, 0, none⟩ ∧ B ≤ g ∧ RowI w g n k l := by
  obtain ⟨o2, c2, hv, _, hk⟩ := h
  obtain ⟨g, e, hB, hr⟩ := hk (by intro h0; rw [h0] at hl; simp at hl; omega)
  cases hv
  subst hl
  exact ⟨g, e, hB, hr⟩

set_option maxHeartbeats 8000000 in
theorem walk_StateOf (b l y n s r : Int) (A : Array Value) (x : Sn) (oa : Option Addr) (cap : Nat) (rs : List Rc) (hzx : x.f.length ≤ 17592186043904 ∧ x.c.length ≤ 17592186043904 ∧ x.s.length ≤ 17592186043904 ∧ x.t.length ≤ 17592186043904) (_ : rs.length ≤ cap ∧ cap ≤ maxLen) (w : World) (hA : SnAt w A x) (hr : XsAt w oa rs) :
    Calls Try.prog 4 #[.agg (gv b l y n s r), .agg A, .slice oa rs.length cap] w fun e w' => e = .returned (.bool true) ∧ Below w.heap.size w w' := by
  obtain ⟨L, hL⟩ : ∃ L, rs.length = L := ⟨_, rfl⟩
  have HLN := Lib.hid hL
  obtain ⟨w2, hw2⟩ : ∃ w2, (w.alloc (.cells (gv b l y n s r) 23)).alloc (.cells A 32) = w2 := ⟨_, rfl⟩
  have hsw : SnW w b l y n s r A w2 := by rw [← hw2]; exact SnW.new _ _ _ _ _ _ _ _
  have HSW := Lib.hid hsw
  have HXS := Lib.hid hr
  have HA := Lib.hid hA
  have HZX := Lib.hid hzx
  have c3 : w2.cell? ⟨w.heap.size, 3, none⟩ = some (.int .i64 n) := hsw.geo.2.2
  rw [hL]
  clear hr hL hsw hA hzx
  by_cases hbig : 300 < n ∨ 100 < L
  · have HWK : Hid (Calls Try.prog 7 #[] w2 fun e w' => e = .returned (.bool true) ∧ Below w.heap.size w w') := by
      refine (st_works w2).mono ?_
      rintro e w3 ⟨rfl, hb3⟩
      exact ⟨rfl, HSW.out.2.trans (hb3.mono HSW.out.2.size)⟩
    rcases (show (300 < n) ∨ (¬ 300 < n ∧ 100 < L) by omega) with h | ⟨h, h2⟩
    · clear hbig
      go_enter Try.func4, Try.ntmps4
      go_wp2_with fail
      refine HWK.out.mono ?_
      rintro e w3 ⟨rfl, hb3⟩
      have HB3 := Lib.hid hb3
      clear hb3
      go_wp2_with fail
      go_ret
      exact ⟨rfl, HB3.out⟩
    · have h2z : (100 : Int) < (L : Int) := by omega
      clear hbig
      go_enter Try.func4, Try.ntmps4
      go_wp2_with fail
      refine HWK.out.mono ?_
      rintro e w3 ⟨rfl, hb3⟩
      have HB3 := Lib.hid hb3
      clear hb3
      go_wp2_with fail
      go_ret
      exact ⟨rfl, HB3.out⟩
  have hn : ¬ 300 < n := by omega
  have hLz : ¬ (100 : Int) < (L : Int) := by omega
  have HLB : Hid (L ≤ 100) := by show L ≤ 100; omega
  clear hbig
  obtain ⟨vf, vc, vs, vt, rfl, i1, i2, i3, i4⟩ := HA.out
  obtain ⟨q1, hq1⟩ : ∃ q, w.heap.size + 1 = q := ⟨_, rfl⟩
  have HQ1 : Hid (w.heap.size + 1 = q1) := hq1
  have HQ : Hid (∀ w', Below w2.heap.size w2 w' → (w'.cell? ⟨q1, 0, none⟩ = some vf ∧ w'.cell? ⟨q1, 1, none⟩ = some vc ∧ w'.cell? ⟨q1, 2, none⟩ = some vs ∧ w'.cell? ⟨q1, 3, none⟩ = some vt) ∧ IvAt w' vf x.f ∧ IvAt w' vc x.c ∧ IvAt w' vs x.s ∧ IvAt w' vt x.t) := fun w' hb => by
    have h1 := HSW.out.call hb
    have h2 := h1.2
    rw [← HQ1.out]
    exact ⟨h1.four, i1.below h2, i2.below h2, i3.below h2, i4.below h2⟩
  go_enter Try.func4, Try.ntmps4
  go_upto_region 3 with fail
  clear hq1 hw2 i1 i2 i3 i4
  rename_i K0 hK0
  generalize hA : (⟨_, _⟩ : Act) = A
  have HA := Lib.hid hA
  have HSZ : Hid (A.tmps.size = 97) := by rw [← hA]; rfl
  have HX4 : Hid (A.tmps.getD 4 undef = .pointer (some ⟨q1, 0, none⟩)) := by rw [← hA]; rfl
  clear hA
  refine wp_region_list3 (SV2S (vsCP q1 vf vc vs vt) fCP) (Near A 7 39) (Below w2.heap.size w2) (TC w2.heap.size x) (RV (vsCP q1 vf vc vs vt) (SpCP w2.heap.size x)) rfl (by kernel_rfl) (RV.ext2S (f := fCP) (SpCP.ext w2.heap.size x)) ?_ ((Below.refl _ _).drew) (Near.refl A _ _) ?_ ?_
  · exact ⟨fun _ _ h => h.put (by decide) (by decide), fun _ _ h => h.put (by decide) (by decide), fun _ _ h => h.put (by decide) (by decide), fun _ _ h => h.put (by decide) (by decide), fun _ _ h => h.put (by decide) (by decide), fun _ _ h => h.put (by decide) (by decide), fun _ _ h => h.put (by decide) (by decide), fun _ _ h => h.put (by decide) (by decide), fun _ _ h => h.put (by decide) (by decide), fun _ _ h => h.put (by decide) (by decide), fun _ _ h => h.put (by decide) (by decide), fun _ _ h => h.put (by decide) (by decide), fun _ _ h => h.put (by decide) (by decide), fun _ _ h => h.put (by decide) (by decide), fun _ _ h => h.put (by decide) (by decide), fun _ _ h => h.put (by decide) (by decide), fun _ _ h => h.put (by decide) (by decide), fun _ _ h => h.put (by decide) (by decide), fun a v h => h, trivial⟩
  · refine ⟨?_, ?_, ?_, ?_, ?_, ?_, ?_, ?_, ?_, ?_, ?_, ?_, ?_, ?_, ?_, ?_, ?_, ?_, ?_, trivial⟩
    all_goals
      intro a w' hC hB hR
      have HC := Lib.hid hC
      clear hC
      clear hK0
    · clear hR
      refine if_yes rfl ?_
      unfold Oper.wp
      go_simp
      exact ⟨.slice (some ⟨w'.heap.size, 0, none⟩) 0 0, rfl, HC.out.alloc HC.out.size _, TC.call ((Below.refl _ _).alloc (Nat.le_refl _) _), ⟨w'.heap.size, put_at (by rw [hB.size, HSZ.out]; decide)⟩⟩
    · have e4 : a.tmps.getD 4 undef = .pointer (some ⟨q1, 0, none⟩) := (hB.slot 4 (by decide)).trans HX4.out
      clear hR
      refine if_yes rfl ?_
      unfold Oper.wp
      go_simp
      exact ⟨.pointer (some ⟨q1, 0, none⟩), rfl, HC.out, TC.refl _ _ _, put_at (by rw [hB.size, HSZ.out]; decide)⟩
    · have h24 : a.tmps.getD 24 undef = .pointer (some ⟨q1, 0, none⟩) := hR ⟨1, .data⟩ (by simp) rfl
      have hc := (HQ.out _ HC.out).1.1
      clear hR
      refine if_yes rfl ?_
      unfold Oper.wp
      go_simp
      exact ⟨vf, rfl, HC.out, TC.refl _ _ _, put_at (by rw [hB.size, HSZ.out]; decide)⟩
    · have h25 : a.tmps.getD 25 undef = vf := hR ⟨2, .data⟩ (by simp) rfl
      obtain ⟨g, h23⟩ := hR ⟨0, .data⟩ (by simp) rfl
      clear hR
      refine if_yes rfl ?_
      refine wp_copy (.tmp 23) (.tmp 25) rfl g h23 vf x.f h25 (HQ.out _ HC.out).2.1 (by have := HZX.out; omega) ?_
      intro oa cap w2 ho hb
      exact ⟨.slice oa x.f.length cap, rfl, HC.out.trans (hb.mono HC.out.size), TC.call hb, ⟨oa, cap, put_at (by rw [hB.size, HSZ.out]; decide), ho.mono HC.out.size⟩⟩
    · clear hR
      refine if_yes rfl ?_
      unfold Oper.wp
      go_simp
      exact ⟨.slice (some ⟨w'.heap.size, 0, none⟩) 0 0, rfl, HC.out.alloc HC.out.size _, TC.call ((Below.refl _ _).alloc (Nat.le_refl _) _), ⟨w'.heap.size, put_at (by rw [hB.size, HSZ.out]; decide)⟩⟩
    · have e4 : a.tmps.getD 4 undef = .pointer (some ⟨q1, 0, none⟩) := (hB.slot 4 (by decide)).trans HX4.out
      clear hR
      refine if_yes rfl ?_
      unfold Oper.wp
      go_simp
      exact ⟨.pointer (some ⟨q1, 1, none⟩), rfl, HC.out, TC.refl _ _ _, put_at (by rw [hB.size, HSZ.out]; decide)⟩
    · have h28 : a.tmps.getD 28 undef = .pointer (some ⟨q1, 1, none⟩) := hR ⟨5, .data⟩ (by simp) rfl
      have hc := (HQ.out _ HC.out).1.2.1
      clear hR
      refine if_yes rfl ?_
      unfold Oper.wp
      go_simp
      exact ⟨vc, rfl, HC.out, TC.refl _ _ _, put_at (by rw [hB.size, HSZ.out]; decide)⟩
    · have h29 : a.tmps.getD 29 undef = vc := hR ⟨6, .data⟩ (by simp) rfl
      obtain ⟨g, h27⟩ := hR ⟨4, .data⟩ (by simp) rfl
      clear hR
      refine if_yes rfl ?_
      refine wp_copy (.tmp 27) (.tmp 29) rfl g h27 vc x.c h29 (HQ.out _ HC.out).2.2.1 (by have := HZX.out; omega) ?_
      intro oa cap w2 ho hb
      exact ⟨.slice oa x.c.length cap, rfl, HC.out.trans (hb.mono HC.out.size), TC.call hb, ⟨oa, cap, put_at (by rw [hB.size, HSZ.out]; decide), ho.mono HC.out.size⟩⟩
    · clear hR
      refine if_yes rfl ?_
      unfold Oper.wp
      go_simp
      exact ⟨.slice (some ⟨w'.heap.size, 0, none⟩) 0 0, rfl, HC.out.alloc HC.out.size _, TC.call ((Below.refl _ _).alloc (Nat.le_refl _) _), ⟨w'.heap.size, put_at (by rw [hB.size, HSZ.out]; decide)⟩⟩
    · have e4 : a.tmps.getD 4 undef = .pointer (some ⟨q1, 0, none⟩) := (hB.slot 4 (by decide)).trans HX4.out
      clear hR
      refine if_yes rfl ?_
      unfold Oper.wp
      go_simp
      exact ⟨.pointer (some ⟨q1, 2, none⟩), rfl, HC.out, TC.refl _ _ _, put_at (by rw [hB.size, HSZ.out]; decide)⟩
    · have h32 : a.tmps.getD 32 undef = .pointer (some ⟨q1, 2, none⟩) := hR ⟨9, .data⟩ (by simp) rfl
      have hc := (HQ.out _ HC.out).1.2.2.1
      clear hR
      refine if_yes rfl ?_
      unfold Oper.wp
      go_simp
      exact ⟨vs, rfl, HC.out, TC.refl _ _ _, put_at (by rw [hB.size, HSZ.out]; decide)⟩
    · have h33 : a.tmps.getD 33 undef = vs := hR ⟨10, .data⟩ (by simp) rfl
      obtain ⟨g, h31⟩ := hR ⟨8, .data⟩ (by simp) rfl
      clear hR
      refine if_yes rfl ?_
      refine wp_copy (.tmp 31) (.tmp 33) rfl g h31 vs x.s h33 (HQ.out _ HC.out).2.2.2.1 (by have := HZX.out; omega) ?_
      intro oa cap w2 ho hb
      exact ⟨.slice oa x.s.length cap, rfl, HC.out.trans (hb.mono HC.out.size), TC.call hb, ⟨oa, cap, put_at (by rw [hB.size, HSZ.out]; decide), ho.mono HC.out.size⟩⟩
    · clear hR
      refine if_yes rfl ?_
      unfold Oper.wp
      go_simp
      exact ⟨.slice (some ⟨w'.heap.size, 0, none⟩) 0 0, rfl, HC.out.alloc HC.out.size _, TC.call ((Below.refl _ _).alloc (Nat.le_refl _) _), ⟨w'.heap.size, put_at (by rw [hB.size, HSZ.out]; decide)⟩⟩
    · have e4 : a.tmps.getD 4 undef = .pointer (some ⟨q1, 0, none⟩) := (hB.slot 4 (by decide)).trans HX4.out
      clear hR
      refine if_yes rfl ?_
      unfold Oper.wp
      go_simp
      exact ⟨.pointer (some ⟨q1, 3, none⟩), rfl, HC.out, TC.refl _ _ _, put_at (by rw [hB.size, HSZ.out]; decide)⟩
    · have h36 : a.tmps.getD 36 undef = .pointer (some ⟨q1, 3, none⟩) := hR ⟨13, .data⟩ (by simp) rfl
      have hc := (HQ.out _ HC.out).1.2.2.2
      clear hR
      refine if_yes rfl ?_
      unfold Oper.wp
      go_simp
      exact ⟨vt, rfl, HC.out, TC.refl _ _ _, put_at (by rw [hB.size, HSZ.out]; decide)⟩
    · have h37 : a.tmps.getD 37 undef = vt := hR ⟨14, .data⟩ (by simp) rfl
      obtain ⟨g, h35⟩ := hR ⟨12, .data⟩ (by simp) rfl
      clear hR
      refine if_yes rfl ?_
      refine wp_copy (.tmp 35) (.tmp 37) rfl g h35 vt x.t h37 (HQ.out _ HC.out).2.2.2.2 (by have := HZX.out; omega) ?_
      intro oa cap w2 ho hb
      exact ⟨.slice oa x.t.length cap, rfl, HC.out.trans (hb.mono HC.out.size), TC.call hb, ⟨oa, cap, put_at (by rw [hB.size, HSZ.out]; decide), ho.mono HC.out.size⟩⟩
    · obtain ⟨o0, k0, h26, r0⟩ := hR ⟨3, .data⟩ (by simp) rfl
      obtain ⟨o1, k1, h30, r1⟩ := hR ⟨7, .data⟩ (by simp) rfl
      obtain ⟨o2, k2, h34, r2⟩ := hR ⟨11, .data⟩ (by simp) rfl
      obtain ⟨o3, k3, h38, r3⟩ := hR ⟨15, .data⟩ (by simp) rfl
      clear hR
      refine if_yes rfl ?_
      exact wp_build_state (.tmp 26) (.tmp 30) (.tmp 34) (.tmp 38) rfl o0 o1 o2 o3 _ _ _ _ k0 k1 k2 k3 h26 h30 h34 h38 ⟨.agg #[.slice o0 x.f.length k0, .slice o1 x.c.length k1, .slice o2 x.s.length k2, .slice o3 x.t.length k3], rfl, HC.out, TC.refl _ _ _, ⟨o0, o1, o2, o3, k0, k1, k2, k3, put_at (by rw [hB.size, HSZ.out]; decide), r0, r1, r2, r3⟩⟩
    · clear hR
      refine if_yes rfl ?_
      unfold Oper.wp
      go_simp
      exact ⟨.pointer (some ⟨w'.heap.size, 0, none⟩), rfl, HC.out.alloc HC.out.size _, TC.call ((Below.refl _ _).alloc (Nat.le_refl _) _), ⟨w'.heap.size, put_at (by rw [hB.size, HSZ.out]; decide), HC.out.size, nil4, Blk.new w' nil4 32, rfl⟩⟩
    · obtain ⟨o0, o1, o2, o3, k0, k1, k2, k3, h39, hr⟩ := hR ⟨16, .data⟩ (by simp) rfl
      obtain ⟨q2, h7, hq2, cs, hqk, hcs⟩ := hR ⟨17, .data⟩ (by simp) rfl
      clear hR
      refine if_yes rfl ?_
      exact wp_store_row 32 (.tmp 7) (.tmp 39) rfl q2 #[.slice o0 x.f.length k0, .slice o1 x.c.length k1, .slice o2 x.s.length k2, .slice o3 x.t.length k3] h7 h39 32 cs hqk size_state hcs (by simp [Value.oneCell']) ⟨undef, rfl, below_put hq2 _ HC.out, TC.store hqk hcs hr, ⟨q2, h7, hq2, OfQ.mk hqk hr⟩⟩
  · intro aa w5 hC hB hR
    obtain ⟨q2, h7, hq2, ho5⟩ := hR 18 (by decide)
    have HC5 := Lib.hid hC
    have HO5 := Lib.hid ho5
    have HQ2 := Lib.hid hq2
    clear hR hC hq2 ho5
    obtain ⟨u, hu⟩ : ∃ u : Nat → Value, ∀ j, aa.tmps.getD j undef = u j := ⟨_, fun _ => rfl⟩
    have hp := hB.puts 33 (by rw [HSZ.out]; decide) rfl
    simp only [hu] at hp h7
    have hp2 : aa = ⟨(A.tmps.toList.take 7 ++ [.pointer (some ⟨q2, 0, none⟩), u 8, u 9, u 10, u 11, u 12, u 13, u 14, u 15, u 16, u 17, u 18, u 19, u 20, u 21, u 22, u 23, u 24, u 25, u 26, u 27, u 28, u 29, u 30, u 31, u 32, u 33, u 34, u 35, u 36, u 37, u 38, u 39] ++ A.tmps.toList.drop 40).toArray, A.defers⟩ := by
      rw [hp, show List.range 33 = [0, 1, 2, 3, 4, 5, 6, 7, 8, 9, 10, 11, 12, 13, 14, 15, 16, 17, 18, 19, 20, 21, 22, 23, 24, 25, 26, 27, 28, 29, 30, 31, 32] by decide]
      simp only [List.map_cons, List.map_nil, Nat.reduceAdd]
      rw [h7]
    clear hu hB h7 hp
    subst hp2
    rw [← HA.out]
    clear HA HSZ HX4
    change (_ : Exit → Act → World → Prop) _ (⟨#[_, _, _, _, _, _, _, _, _, _, _, _, _, _, _, _, _, _, _, _, _, _, _, _, _, _, _, _, _, _, _, _, _, _, _, _, _, _, _, _, _, _, _, _, _, _, _, _, _, _, _, _, _, _, _, _, _, _, _, _, _, _, _, _, _, _, _, _, _, _, _, _, _, _, _, _, _, _, _, _, _, _, _, _, _, _, _, _, _, _, _, _, _, _, _, _, _], _⟩ : Act) _
    obtain ⟨o0, o1, o2, o3, k0, k1, k2, k3, hbk, r0, r1, r2, r3⟩ := HO5.out
    have HBK := Lib.hid hbk
    have HRW : Hid (OwnV w2.heap.size w5 (.slice o0 x.f.length k0) x.f ∧ OwnV w2.heap.size w5 (.slice o1 x.c.length k1) x.c) := ⟨r0, r1⟩
    have HSA5 : Hid (SnAt w5 #[.slice o0 x.f.length k0, .slice o1 x.c.length k1, .slice o2 x.s.length k2, .slice o3 x.t.length k3] x) := ⟨_, _, _, _, rfl, r0.iv, r1.iv, r2.iv, r3.iv⟩
    have HSW5 := Lib.hid (HSW.out.call HC5.out)
    clear hbk r0 r1 r2 r3 HO5 HQ c3
    have HN1 := Lib.hid hn
    go_wp2_with (first
      | (refine wpList_load_row rfl 23 (.tmp 3) rfl w.heap.size rfl 23 (gv b l y n s r) (0, 0) _ HSW5.out.1.2.1 Try.underlying23 rfl size_geo ?_)
      | (refine wpList_load_row rfl 32 (.tmp 7) rfl q2 rfl 32 #[.slice o0 x.f.length k0, .slice o1 x.c.length k1, .slice o2 x.s.length k2, .slice o3 x.t.length k3] (0, 0) _ HBK.out Try.underlying32 rfl size_state ?_))
    refine (st_of b l y n s r _ x w5 HSA5.out).mono ?_
    rintro e w6 ⟨hyy, hn6, hy6, hb6⟩
    have HSW6 := Lib.hid (HSW5.out.call hb6)
    have HQ6 : Hid (Blk w6 q1 #[vf, vc, vs, vt] 32) := by rw [← HQ1.out]; exact HSW6.out.1.2.2
    have HW56 := Lib.hid hb6
    have HB26 := Lib.hid (HC5.out.trans (hb6.mono HC5.out.size))
    have hput := rsn_put w6 b l y n s r #[vf, vc, vs, vt] x (HA.out.below HSW6.out.2)
    by_cases hok : OkG b l y n s r
    · by_cases hfit : FitS b n x
      · obtain ⟨o, rfl, hk6⟩ := hyy hok hfit
        have HOK := Lib.hid hok
        have HFT := Lib.hid hfit
        have HK6 := Lib.hid hk6
        have HBK6 := Lib.hid (HBK.out.after hb6)
        have HR6 := Lib.hid (show OwnV w2.heap.size w6 (.slice o0 x.f.length k0) x.f ∧ OwnV w2.heap.size w6 (.slice o1 x.c.length k1) x.c from ⟨HRW.out.1.call hb6, HRW.out.2.call hb6⟩)
        have HLT : Hid (∀ g c m, Blk w5 g c m → g < w5.heap.size) := fun _ _ _ h => h.lt
        clear hyy hn6 hy6 hk6 hb6 hok hfit hn
        have HPT := Lib.hid hput
        clear hput
        go_wp2_with (first
          | (refine wpList_load_row rfl 23 (.tmp 3) rfl w.heap.size rfl 23 (gv b l y n s r) (0, 0) _ HSW6.out.1.2.1 Try.underlying23 rfl size_geo ?_)
          | (refine wpList_load_row rfl 32 (.tmp 4) rfl q1 rfl 32 #[vf, vc, vs, vt] (0, 0) _ HQ6.out Try.underlying32 rfl size_state ?_))
        refine HPT.out.mono ?_
        rintro e w7 ⟨_, _, hp7, hb7⟩
        obtain ⟨vp, rfl, hop⟩ := hp7 HOK.out HFT.out
        obtain ⟨op, np, kp, rfl⟩ : ∃ op np kp, vp = .slice op np kp := by
          rcases hop.2 with ⟨rfl, _⟩ | ⟨g, c, cur, rfl, _⟩
          · exact ⟨_, _, _, rfl⟩
          · exact ⟨_, _, _, rfl⟩
        have HNB : Hid (n ≤ 300 ∧ 1 ≤ n ∧ 8 ≤ b ∧ b ≤ 64) := by
          obtain ⟨h1, _, _⟩ := HOK.out
          have h2 := HN1.out
          unfold PreG at h1
          show n ≤ 300 ∧ 1 ≤ n ∧ 8 ≤ b ∧ b ≤ 64
          omega
        have hnn := HNB.out
        obtain ⟨b, rfl⟩ : ∃ k : Nat, b = k := ⟨b.toNat, by omega⟩
        obtain ⟨n, rfl⟩ : ∃ k : Nat, n = k := ⟨n.toNat, by omega⟩
        have HNN : Hid (n ≤ 300 ∧ 1 ≤ n ∧ 8 ≤ b ∧ b ≤ 64) := by show n ≤ 300 ∧ 1 ≤ n ∧ 8 ≤ b ∧ b ≤ 64; omega
        have hl1 : x.f.length = n := by have := HFT.out.1.1; omega
        have hl2 : x.c.length = b := by have := HFT.out.2.1.1; omega
        have hl3 : x.s.length = b := by have := HFT.out.2.2.1.1; omega
        have hl4 : x.t.length = b := by have := HFT.out.2.2.2.1; omega
        have HLX : Hid (x.f.length = n ∧ x.c.length = b) := ⟨hl1, hl2⟩
        have HLX4 : Hid (x.f.length = n ∧ x.c.length = b ∧ x.s.length = b ∧ x.t.length = b) := ⟨hl1, hl2, hl3, hl4⟩
        obtain ⟨g0, rfl, hg0, hr0⟩ := ownv_some HRW.out.1 hl1 (by omega)
        obtain ⟨g1, rfl, hg1, hr1⟩ := ownv_some HRW.out.2 hl2 (by omega)
        have HCB : Hid (CntB x) := ⟨fun v hv => HFT.out.2.2.1.2 v hv, fun v hv => HFT.out.2.2.2.2 v hv⟩
        have HGB : Hid ((w2.heap.size ≤ g0 ∧ g0 < w5.heap.size) ∧ w2.heap.size ≤ g1 ∧ g1 < w5.heap.size) := ⟨⟨hg0, hr0.lt⟩, hg1, hr1.lt⟩
        have HK7 := Lib.hid (HK6.out.call hb7)
        have HB27 := Lib.hid (HB26.out.trans (hb7.mono HB26.out.size))
        have HR07 : Hid (RowI w7 g0 n k0 x.f) := (hr0.call HW56.out).call hb7
        have HR17 : Hid (RowI w7 g1 b k1 x.c) := (hr1.call HW56.out).call hb7
        rw [hl1, hl2] at HBK6
        have HBK7 := Lib.hid (HBK6.out.after hb7)
        obtain ⟨J0, hJ0⟩ : ∃ K, w5.heap.size = K := ⟨_, rfl⟩
        obtain ⟨J1, hJ1⟩ : ∃ K, w6.heap.size = K := ⟨_, rfl⟩
        rw [hJ0, hJ1] at HK7
        rw [hJ0] at HGB
        have HWJ : Hid (w.heap.size + 2 ≤ w2.heap.size ∧ w2.heap.size ≤ J0 ∧ J0 ≤ J1 ∧ J1 ≤ w7.heap.size) := by
          have h1 := HSW.out.1.1
          have h2 := HC5.out.size
          have h3 := HW56.out.size
          have h4 := hb7.size
          show _ ∧ _ ∧ _ ∧ _
          omega
        have d0 : w7.cell? ⟨q2, 0, none⟩ = some (.slice (some ⟨g0, 0, none⟩) n k0) := HBK7.out.cell 0
        clear hl1 hl2 hl3 hl4 hg0 hg1 hr0 hr1 hJ0 hJ1 hnn hop hb7 HW56 HK6 HBK6 HR6 HRW HSW6 HQ6 HPT HB26 HBK HSA5 HSW5 HLT HNB hp7
        go_wp2_with fail
        refine (book_spoil g0 n k0 _ _ HR07.out (by have := HNN.out; omega)).mono ?_
        rintro e w8 ⟨rfl, ho8, hk8⟩
        have HK8 := Lib.hid (HK7.out.out ho8 (Or.inr HGB.out.1.2))
        have HB28 := Lib.hid (HB27.out.trans (ho8.1.mono HGB.out.1.1))
        have HBK8 : Hid (∃ a b c : Value, Blk w8 q2 #[a, .slice (some ⟨g1, 0, none⟩) x.c.length k1, b, c] 32) := by
          obtain ⟨_, _, cs, hbk, _⟩ := HR07.out
          have hne := blk_neT hbk HBK7.out (by decide)
          rw [HLX.out.2]
          exact ⟨_, _, _, HBK7.out.out ho8 (by omega)⟩
        obtain ⟨l2, hl2⟩ := hk8 _ _ _ _ HR17.out
        have HL2 := Lib.hid hl2
        obtain ⟨va, vb, vd, hbk8⟩ := HBK8.out
        rw [HLX.out.2] at hbk8
        have d1 : w8.cell? ⟨q2, 1, none⟩ = some (.slice (some ⟨g1, 0, none⟩) b k1) := hbk8.cell 1
        clear ho8 hk8 hl2 hbk8 d0 HK7 HB27 HBK7 HR07 HR17 HBK8
        go_wp2_with fail
        refine (book_spoil g1 b k1 _ _ HL2.out (by have := HNN.out; omega)).mono ?_
        rintro e w9 ⟨rfl, ho9, _⟩
        have HK9' := Lib.hid (HK8.out.out ho9 (Or.inr HGB.out.2.2))
        have HB29 := Lib.hid (HB28.out.trans (ho9.1.mono HGB.out.2.1))
        have HW9 : Hid (Below w.heap.size w w9) := HSW.out.2.trans (HB29.out.mono (by have := HSW.out.1.1; omega))
        clear ho9 d1 HK8 HB28 HL2
        have HQ9 : Hid (Blk w9 q1 #[vf, vc, vs, vt] 32) := by rw [← HQ1.out]; exact HSW.out.1.2.2.after HB29.out
        have HS9 : Hid (SnG J0 J1 w9 #[vf, vc, vs, vt] x) := (SnG.low HA.out (by have := HWJ.out; omega)).below HW9.out
        have HX9 : Hid (XsB J0 w9 oa rs) := XsB.of HXS.out HW9.out (by have := HWJ.out; omega)
        go_wp2_with (refine wpList_load_row rfl 32 (.tmp 4) rfl q1 rfl 32 #[vf, vc, vs, vt] (0, 0) _ HQ9.out Try.underlying32 rfl size_state ?_)
        have hall := rst_all w9 #[vf, vc, vs, vt] x oa cap rs (kp_size HK9'.out).2 HS9.out HCB.out (by have h1 := HLX4.out; have h2 := HNN.out; omega) (by have := HLB.out; have := HLN.out; omega) (HX9.out.atO (kp_size HK9'.out).1)
        rw [HLN.out] at hall
        refine hall.mono ?_
        rintro e w10 ⟨⟨A2, rfl, hs10⟩, hb10⟩
        obtain ⟨ec, hec⟩ : ∃ ec, allE x rs = ec := ⟨_, rfl⟩
        obtain ⟨zz, hzz⟩ : ∃ z, allX x rs = z := ⟨_, rfl⟩
        have HLZ : Hid (zz.f.length = n ∧ zz.c.length = b) := by
          obtain ⟨e1, e2, _, _⟩ := allX_lenO rs x
          rw [hzz] at e1 e2
          exact ⟨e1.trans HLX.out.1, e2.trans HLX.out.2⟩
        have HAL : Hid (∀ w', Kp J0 J1 w' o x → XsB J0 w' oa rs → Calls Try.prog 16 #[.pointer (some ⟨o, 0, none⟩), .slice oa L cap] w' fun e w2 => e = .returned (.int .i64 ec) ∧ Kp J0 J1 w2 o zz ∧ Out J0 J1 w' w2) := fun w' hk hx => by
          have h := al_isO (cap := cap) hk HCB.out HLN.out (by have := HLB.out; omega) hx
          rw [hec, hzz] at h
          exact h
        rw [hzz] at hs10
        rw [hec]
        have HS10 := Lib.hid hs10
        have HSA : Hid ((Try.prog.info? 32).map (·.size) = some (#[vf, vc, vs, vt] : Array Value).size) := size_state
        have HSA2 : Hid ((Try.prog.info? 32).map (·.size) = some A2.size) := snAt_sizeT HS10.out
        have HS4 : Hid (nil4.size = A2.size) := snAt_four4 HS10.out
        have HB10 := Lib.hid hb10
        clear hall hs10 hb10 hec hzz HCB
        have HZN : Hid (Blk (w10.alloc (.cells #[.slice none 0 0, .slice none 0 0, .slice none 0 0, .slice none 0 0] 32)) w10.heap.size nil4 32) := Blk.new _ _ _
        go_upto_region 13 with (refine wpList_store_row rfl 32 (.tmp 12) (.tmp 75) rfl w10.heap.size A2 rfl rfl 32 nil4 HZN.out HSA2.out HS4.out (snAt_oneT HS10.out) ?_)
        have hb11 : Below w10.heap.size w10 ((w10.alloc (.cells #[.slice none 0 0, .slice none 0 0, .slice none 0 0, .slice none 0 0] 32)).setRow w10.heap.size A2) := below_put (Nat.le_refl _) _ ((Below.refl _ _).alloc (Nat.le_refl _) _)
        have hb911 := HB10.out.trans (hb11.mono HB10.out.size)
        have HK9 := Lib.hid (HK9'.out.call hb911)
        have HSB : Hid (ScW w J0 J1 q1 w10.heap.size oa rs x zz #[vf, vc, vs, vt] A2 ((w10.alloc (.cells #[.slice none 0 0, .slice none 0 0, .slice none 0 0, .slice none 0 0] 32)).setRow w10.heap.size A2)) := by
          have h1 := HWJ.out
          have h2 := (kp_size HK9'.out).2
          have h3 := HB10.out.size
          have h4 := hb11.size
          have h5 := HQ1.out
          exact ⟨HS9.out.below hb911, HQ9.out.after hb911, HS10.out.below hb11, HZN.out.put _, HX9.out.keep (hb911.mono (kp_size HK9'.out).1), HW9.out.trans (hb911.mono HW9.out.size), by omega⟩
        generalize (w10.alloc (.cells #[.slice none 0 0, .slice none 0 0, .slice none 0 0, .slice none 0 0] 32)).setRow w10.heap.size A2 = w11 at HK9 HSB ⊢
        obtain ⟨t9, ht9⟩ : ∃ q, w10.heap.size = q := ⟨_, rfl⟩
        rw [ht9] at HSB ⊢
        clear ht9 hb11 hb911 HZN HS4 HS10 HK9' HQ9 HS9 HX9 HW9 HB29 HB10
        obtain ⟨AS, hAe⟩ : ∃ A : Array Value, #[vf, vc, vs, vt] = A := ⟨_, rfl⟩
        rw [hAe] at HSB HSA
        clear hAe
        rename_i K0 hK0
        generalize hA : (⟨_, _⟩ : Act) = A
        have HA := Lib.hid hA
        have HSZ : Hid (A.tmps.size = 97) := by rw [← hA]; rfl
        have HX2 : Hid (A.tmps.getD 2 undef = .slice oa L cap) := by rw [← hA]; rfl
        have HX4 : Hid (A.tmps.getD 4 undef = .pointer (some ⟨q1, 0, none⟩)) := by rw [← hA]; rfl
        have HX8 : Hid (A.tmps.getD 8 undef = .pointer (some ⟨o, 0, none⟩)) := by rw [← hA]; rfl
        have HX12 : Hid (A.tmps.getD 12 undef = .pointer (some ⟨t9, 0, none⟩)) := by rw [← hA]; rfl
        have HX13 : Hid (A.tmps.getD 13 undef = .int .i64 ec) := by rw [← hA]; rfl
        clear hA
        refine wp_region_list3Z 7 (fun i => i == 1 || i == 7) (SV2S (vsSB o L cap oa AS A2 ec) fSB) (NearL A [77, 78, 79, 80, 81, 82, 83, 84, 85, 86, 87, 88, 89, 90, 91, 92, 93, 94, 95, 96, 6]) (fun bz a w' => (bz = false → Kp J0 J1 w' o x) ∧ ScW w J0 J1 q1 t9 oa rs x zz AS A2 w') (TB J0 J1 o n b x zz) (RV (vsSB o L cap oa AS A2 ec) (SpSB J0 J1 o n b x zz ec)) rfl (by decide) (by kernel_rfl) (by kernel_rfl) (RV.ext2S (f := fSB) (SpSB.ext J0 J1 o n b x zz ec)) ?_ (⟨fun _ => HK9.out.call (Below.refl _ _).drew, HSB.out.call (Below.refl _ _).drew⟩) (NearL.refl A _) ?_ ?_
        · exact ⟨fun _ _ h => h.put (by decide), fun _ _ h => h.put (by decide), fun _ _ h => h.put (by decide), fun _ _ h => h.put (by decide), fun _ _ h => h.put (by decide), fun _ _ h => h.put (by decide), fun _ _ h => h.put (by decide), fun _ _ h => h.put (by decide), fun _ _ h => h.put (by decide), fun _ _ h => h.put (by decide), fun _ _ h => h.put (by decide), fun _ _ h => h.put (by decide), fun _ _ h => h.put (by decide), fun _ _ h => h.put (by decide), fun _ _ h => h.put (by decide), fun _ _ h => h.put (by decide), fun _ _ h => h.put (by decide), fun _ _ h => h.put (by decide), fun _ _ h => h.put (by decide), fun _ _ h => h.put (by decide), fun _ _ h => h.put (by decide), trivial⟩
        · refine ⟨?_, ?_, ?_, ?_, ?_, ?_, ?_, ?_, ?_, ?_, ?_, ?_, ?_, ?_, ?_, ?_, ?_, ?_, ?_, ?_, ?_, trivial⟩
          all_goals
            intro bz a w' hz hC hB hR
            have HC := Lib.hid hC
            clear hC
            clear hK0
          · have e8 : a.tmps.getD 8 undef = .pointer (some ⟨o, 0, none⟩) := (hB.slot 8 (by decide)).trans HX8.out
            clear hR
            refine if_yes rfl ?_
            unfold Oper.wp
            go_simp
            exact ⟨.pointer (some ⟨o, 0, none⟩), rfl, ⟨fun h => HC.out.1 (by simpa using h), HC.out.2⟩, TB.refl _ _ _ _ _ _ _ _, put_at (by rw [hB.size, HSZ.out]; decide)⟩
          · have h77 : a.tmps.getD 77 undef = .pointer (some ⟨o, 0, none⟩) := hR ⟨0, .data⟩ (by simp) rfl
            clear hR
            refine if_yes rfl ?_
            unfold Oper.wp
            go_simp
            refine (kp_stateO (HC.out.1 (hz rfl)) HLX.out.1 HLX.out.2 (by have := HNN.out; omega)).mono ?_
            rintro e w2 ⟨⟨g0, g1, g2, g3, k0, k1, k2, k3, rfl, hr⟩, hb⟩
            exact ⟨.agg (kpV g0 g1 g2 g3 k0 k1 k2 k3 n b), rfl, ⟨fun _ => (HC.out.1 (hz rfl)).call hb, HC.out.2.call hb⟩, TB.call hb, ⟨g0, g1, g2, g3, k0, k1, k2, k3, put_at (by rw [hB.size, HSZ.out]; decide), hr.mono (kp_size (HC.out.1 (hz rfl))).2⟩⟩
          · have e4 : a.tmps.getD 4 undef = .pointer (some ⟨q1, 0, none⟩) := (hB.slot 4 (by decide)).trans HX4.out
            clear hR
            refine if_yes rfl ?_
            exact wp_load_row 32 (.tmp 4) rfl q1 e4 32 AS (0, 0) _ HC.out.2.2.1 Try.underlying32 rfl HSA.out ⟨.agg AS, rfl, ⟨fun h => HC.out.1 (by simpa using h), HC.out.2⟩, TB.refl _ _ _ _ _ _ _ _, put_at (by rw [hB.size, HSZ.out]; decide)⟩
          · have h79 : a.tmps.getD 79 undef = .agg AS := hR ⟨2, .data⟩ (by simp) rfl
            obtain ⟨g0, g1, g2, g3, k0, k1, k2, k3, h78, hr⟩ := hR ⟨1, .data⟩ (by simp) rfl
            clear hR
            refine if_yes rfl ?_
            unfold Oper.wp
            go_simp
            refine (book_state _ _ _ _ _ hr.sn HC.out.2.1.sn).mono ?_
            rintro e w2 ⟨rfl, hb⟩
            rw [show decide (x = x) = true from decide_eq_true rfl]
            exact ⟨.bool true, rfl, ⟨fun h => (HC.out.1 (by simpa using h)).call hb, HC.out.2.call hb⟩, TB.call hb, put_at (by rw [hB.size, HSZ.out]; decide)⟩
          · have h80 : a.tmps.getD 80 undef = .bool true := hR ⟨3, .data⟩ (by simp) rfl
            clear hR
            refine if_yes rfl ?_
            unfold Oper.wp
            go_simp
            exact ⟨.bool true, rfl, ⟨fun h => HC.out.1 (by simpa using h), HC.out.2⟩, TB.refl _ _ _ _ _ _ _ _, put_at (by rw [hB.size, HSZ.out]; decide)⟩
          · have g81 : a.tmps.getD 81 undef = .bool true := hR ⟨4, .guard⟩ (by simp) rfl
            have e8 : a.tmps.getD 8 undef = .pointer (some ⟨o, 0, none⟩) := (hB.slot 8 (by decide)).trans HX8.out
            clear hR
            refine if_yes (wanted_at rfl (by kernel_rfl) (by rw [hB.size, HSZ.out]; decide) g81 rfl) ?_
            unfold Oper.wp
            go_simp
            exact ⟨.pointer (some ⟨o, 0, none⟩), rfl, ⟨fun h => HC.out.1 (by simpa using h), HC.out.2⟩, TB.refl _ _ _ _ _ _ _ _, put_at (by rw [hB.size, HSZ.out]; decide)⟩
          · have g81 : a.tmps.getD 81 undef = .bool true := hR ⟨4, .guard⟩ (by simp) rfl
            have e2 : a.tmps.getD 2 undef = .slice oa L cap := (hB.slot 2 (by decide)).trans HX2.out
            clear hR
            refine if_yes (wanted_at rfl (by kernel_rfl) (by rw [hB.size, HSZ.out]; decide) g81 rfl) ?_
            unfold Oper.wp
            go_simp
            exact ⟨.slice oa L cap, rfl, ⟨fun h => HC.out.1 (by simpa using h), HC.out.2⟩, TB.refl _ _ _ _ _ _ _ _, put_at (by rw [hB.size, HSZ.out]; decide)⟩
          · have g81 : a.tmps.getD 81 undef = .bool true := hR ⟨4, .guard⟩ (by simp) rfl
            have h82 : a.tmps.getD 82 undef = .pointer (some ⟨o, 0, none⟩) := hR ⟨5, .data⟩ (by simp) rfl
            have h83 : a.tmps.getD 83 undef = .slice oa L cap := hR ⟨6, .data⟩ (by simp) rfl
            clear hR
            refine if_yes (wanted_at rfl (by kernel_rfl) (by rw [hB.size, HSZ.out]; decide) g81 rfl) ?_
            unfold Oper.wp
            go_simp
            refine (HAL.out _ (HC.out.1 (hz rfl)) HC.out.2.2.2.2.2.1).mono ?_
            rintro e w2 ⟨rfl, hk2, ho2⟩
            exact ⟨.int .i64 ec, rfl, ⟨(fun h => by cases h), HC.out.2.out ho2⟩, TB.outs ho2 hk2, ⟨put_at (by rw [hB.size, HSZ.out]; decide), hk2⟩⟩
          · have g81 : a.tmps.getD 81 undef = .bool true := hR ⟨4, .guard⟩ (by simp) rfl
            have e13 : a.tmps.getD 13 undef = .int .i64 ec := (hB.slot 13 (by decide)).trans HX13.out
            clear hR
            refine if_yes (wanted_at rfl (by kernel_rfl) (by rw [hB.size, HSZ.out]; decide) g81 rfl) ?_
            unfold Oper.wp
            go_simp
            exact ⟨.int .i64 ec, rfl, ⟨fun h => HC.out.1 (by simpa using h), HC.out.2⟩, TB.refl _ _ _ _ _ _ _ _, put_at (by rw [hB.size, HSZ.out]; decide)⟩
          · have g81 : a.tmps.getD 81 undef = .bool true := hR ⟨4, .guard⟩ (by simp) rfl
            have h85 : a.tmps.getD 85 undef = .int .i64 ec := hR ⟨8, .data⟩ (by simp) rfl
            obtain ⟨h84, hk⟩ := hR ⟨7, .data⟩ (by simp) rfl
            clear hR
            refine if_yes (wanted_at rfl (by kernel_rfl) (by rw [hB.size, HSZ.out]; decide) g81 rfl) ?_
            unfold Oper.wp
            go_simp
            exact ⟨.bool true, rfl, ⟨fun h => HC.out.1 (by simpa using h), HC.out.2⟩, TB.refl _ _ _ _ _ _ _ _, ⟨put_at (by rw [hB.size, HSZ.out]; decide), hk⟩⟩
          · have h81 : a.tmps.getD 81 undef = .bool true := hR ⟨4, .data⟩ (by simp) rfl
            obtain ⟨h86, hk⟩ := hR ⟨9, .data⟩ (by simp) rfl
            clear hR
            refine if_yes rfl ?_
            unfold Oper.wp
            go_simp
            exact ⟨.bool true, rfl, ⟨fun h => HC.out.1 (by simpa using h), HC.out.2⟩, TB.refl _ _ _ _ _ _ _ _, ⟨put_at (by rw [hB.size, HSZ.out]; decide), hk⟩⟩
          · obtain ⟨h87, hk⟩ := hR ⟨10, .data⟩ (by simp) rfl
            clear hR
            refine if_yes rfl ?_
            unfold Oper.wp
            go_simp
            exact ⟨.bool true, rfl, ⟨fun h => HC.out.1 (by simpa using h), HC.out.2⟩, TB.refl _ _ _ _ _ _ _ _, ⟨put_at (by rw [hB.size, HSZ.out]; decide), hk⟩⟩
          · have g88 : a.tmps.getD 88 undef = .bool true := (hR ⟨11, .guard⟩ (by simp) rfl).1
            have e8 : a.tmps.getD 8 undef = .pointer (some ⟨o, 0, none⟩) := (hB.slot 8 (by decide)).trans HX8.out
            clear hR
            refine if_yes (wanted_at rfl (by kernel_rfl) (by rw [hB.size, HSZ.out]; decide) g88 rfl) ?_
            unfold Oper.wp
            go_simp
            exact ⟨.pointer (some ⟨o, 0, none⟩), rfl, ⟨fun h => HC.out.1 (by simpa using h), HC.out.2⟩, TB.refl _ _ _ _ _ _ _ _, put_at (by rw [hB.size, HSZ.out]; decide)⟩
          · have g88 : a.tmps.getD 88 undef = .bool true := (hR ⟨11, .guard⟩ (by simp) rfl).1
            have h89 : a.tmps.getD 89 undef = .pointer (some ⟨o, 0, none⟩) := hR ⟨12, .data⟩ (by simp) rfl
            obtain ⟨_, hk⟩ := hR ⟨11, .guard⟩ (by simp) rfl
            clear hR
            refine if_yes (wanted_at rfl (by kernel_rfl) (by rw [hB.size, HSZ.out]; decide) g88 rfl) ?_
            unfold Oper.wp
            go_simp
            refine (kp_stateO hk HLZ.out.1 HLZ.out.2 (by have := HNN.out; omega)).mono ?_
            rintro e w2 ⟨⟨g0, g1, g2, g3, k0, k1, k2, k3, rfl, hr⟩, hb⟩
            exact ⟨.agg (kpV g0 g1 g2 g3 k0 k1 k2 k3 n b), rfl, ⟨fun h => (HC.out.1 (by simpa using h)).call hb, HC.out.2.call hb⟩, TB.call hb, ⟨g0, g1, g2, g3, k0, k1, k2, k3, put_at (by rw [hB.size, HSZ.out]; decide), hr.mono (kp_size hk).2⟩⟩
          · have g88 : a.tmps.getD 88 undef = .bool true := (hR ⟨11, .guard⟩ (by simp) rfl).1
            have e12 : a.tmps.getD 12 undef = .pointer (some ⟨t9, 0, none⟩) := (hB.slot 12 (by decide)).trans HX12.out
            clear hR
            refine if_yes (wanted_at rfl (by kernel_rfl) (by rw [hB.size, HSZ.out]; decide) g88 rfl) ?_
            exact wp_load_row 32 (.tmp 12) rfl t9 e12 32 A2 (0, 0) _ HC.out.2.2.2.2.1 Try.underlying32 rfl HSA2.out ⟨.agg A2, rfl, ⟨fun h => HC.out.1 (by simpa using h), HC.out.2⟩, TB.refl _ _ _ _ _ _ _ _, put_at (by rw [hB.size, HSZ.out]; decide)⟩
          · have g88 : a.tmps.getD 88 undef = .bool true := (hR ⟨11, .guard⟩ (by simp) rfl).1
            have h91 : a.tmps.getD 91 undef = .agg A2 := hR ⟨14, .data⟩ (by simp) rfl
            obtain ⟨g0, g1, g2, g3, k0, k1, k2, k3, h90, hr⟩ := hR ⟨13, .data⟩ (by simp) rfl
            clear hR
            refine if_yes (wanted_at rfl (by kernel_rfl) (by rw [hB.size, HSZ.out]; decide) g88 rfl) ?_
            unfold Oper.wp
            go_simp
            refine (book_state _ _ _ _ _ hr.sn HC.out.2.2.2.1.sn).mono ?_
            rintro e w2 ⟨rfl, hb⟩
            rw [show decide (zz = zz) = true from decide_eq_true rfl]
            exact ⟨.bool true, rfl, ⟨fun h => (HC.out.1 (by simpa using h)).call hb, HC.out.2.call hb⟩, TB.call hb, put_at (by rw [hB.size, HSZ.out]; decide)⟩
          · have h92 : a.tmps.getD 92 undef = .bool true := hR ⟨15, .data⟩ (by simp) rfl
            obtain ⟨h88, _⟩ := hR ⟨11, .data⟩ (by simp) rfl
            clear hR
            refine if_yes rfl ?_
            unfold Oper.wp
            go_simp
            exact ⟨.bool true, rfl, ⟨fun h => HC.out.1 (by simpa using h), HC.out.2⟩, TB.refl _ _ _ _ _ _ _ _, put_at (by rw [hB.size, HSZ.out]; decide)⟩
          · have h93 : a.tmps.getD 93 undef = .bool true := hR ⟨16, .data⟩ (by simp) rfl
            clear hR
            refine if_yes rfl ?_
            unfold Oper.wp
            go_simp
            exact ⟨.bool true, rfl, ⟨fun h => HC.out.1 (by simpa using h), HC.out.2⟩, TB.refl _ _ _ _ _ _ _ _, put_at (by rw [hB.size, HSZ.out]; decide)⟩
          · have g94 : a.tmps.getD 94 undef = .bool true := hR ⟨17, .guard⟩ (by simp) rfl
            clear hR
            refine if_yes (wanted_at rfl (by kernel_rfl) (by rw [hB.size, HSZ.out]; decide) g94 rfl) ?_
            unfold Oper.wp
            go_simp
            refine (st_works _).mono ?_
            rintro e w2 ⟨rfl, hb⟩
            exact ⟨.bool true, rfl, ⟨fun h => (HC.out.1 (by simpa using h)).call hb, HC.out.2.call hb⟩, TB.call hb, put_at (by rw [hB.size, HSZ.out]; decide)⟩
          · have h94 : a.tmps.getD 94 undef = .bool true := hR ⟨17, .data⟩ (by simp) rfl
            have h95 : a.tmps.getD 95 undef = .bool true := hR ⟨18, .data⟩ (by simp) rfl
            clear hR
            refine if_yes rfl ?_
            unfold Oper.wp
            go_simp
            exact ⟨.bool true, rfl, ⟨fun h => HC.out.1 (by simpa using h), HC.out.2⟩, TB.refl _ _ _ _ _ _ _ _, put_at (by rw [hB.size, HSZ.out]; decide)⟩
          · have h96 : a.tmps.getD 96 undef = .bool true := hR ⟨19, .data⟩ (by simp) rfl
            clear hR
            refine if_yes rfl ?_
            unfold Oper.wp
            go_simp
            exact ⟨.bool true, rfl, ⟨fun h => HC.out.1 (by simpa using h), HC.out.2⟩, TB.refl _ _ _ _ _ _ _ _, put_at (by rw [hB.size, HSZ.out]; decide)⟩
        · intro aa w12 hC hB hR
          have h6 : aa.tmps.getD 6 undef = .bool true := hR 20 (by decide)
          have HSB8 := Lib.hid hC.2
          clear hR hC
          clear HK9 HSB HAL HSA HSA2
          refine hK0 _ _ ?_
          refine wp_ret ?_
          refine bodyPost_ret (results_tmp (fn := Try.f4) (t := 6) rfl aa.tmps _ w12) (hB.defers.trans (by rw [← HA.out])) ?_
          exact ⟨congrArg Ending.returned h6, HSB8.out.2.2.2.2.2.1⟩
      · obtain rfl := hy6 hok hfit
        have HOK := Lib.hid hok
        have HFT := Lib.hid hfit
        have HPT := Lib.hid hput
        clear hyy hn6 hy6 hb6 hok hfit hput
        go_wp2_with (first
          | (refine wpList_load_row rfl 23 (.tmp 3) rfl w.heap.size rfl 23 (gv b l y n s r) (0, 0) _ HSW6.out.1.2.1 Try.underlying23 rfl size_geo ?_)
          | (refine wpList_load_row rfl 32 (.tmp 4) rfl q1 rfl 32 #[vf, vc, vs, vt] (0, 0) _ HQ6.out Try.underlying32 rfl size_state ?_))
        refine HPT.out.mono ?_
        rintro e w7 ⟨_, hp7, _, hb7⟩
        obtain rfl := hp7 HOK.out HFT.out
        have HB7 := Lib.hid (HSW6.out.2.trans (hb7.mono HSW6.out.2.size))
        clear hp7 hb7
        go_wp2_with fail
        refine (st_works _).mono ?_
        rintro e w8 ⟨rfl, hb8⟩
        have HB8 := Lib.hid (HB7.out.trans (hb8.mono HB7.out.size))
        clear hb8
        go_wp2_with fail
        go_ret
        exact ⟨rfl, HB8.out⟩
    · obtain rfl := hn6 hok
      have HOK := Lib.hid hok
      have HPT := Lib.hid hput
      clear hyy hn6 hy6 hb6 hok hput
      go_wp2_with (first
        | (refine wpList_load_row rfl 23 (.tmp 3) rfl w.heap.size rfl 23 (gv b l y n s r) (0, 0) _ HSW6.out.1.2.1 Try.underlying23 rfl size_geo ?_)
        | (refine wpList_load_row rfl 32 (.tmp 4) rfl q1 rfl 32 #[vf, vc, vs, vt] (0, 0) _ HQ6.out Try.underlying32 rfl size_state ?_))
      refine HPT.out.mono ?_
      rintro e w7 ⟨hp7, _, _, hb7⟩
      obtain rfl := hp7 HOK.out
      have HB7 := Lib.hid (HSW6.out.2.trans (hb7.mono HSW6.out.2.size))
      clear hp7 hb7
      go_wp2_with fail
      refine (st_works _).mono ?_
      rintro e w8 ⟨rfl, hb8⟩
      have HB8 := Lib.hid (HB7.out.trans (hb8.mono HB7.out.size))
      clear hb8
      go_wp2_with fail
      go_ret
      exact ⟨rfl, HB8.out⟩

end Go.Proofs.Ytgnjknboahcmgaa

/- Parameters that are slices or arrays of numbers: opened; shut again by Below.trod (an argument reads behind the call as it did). -/
namespace Go.Proofs.Ytgnjknboahcmgaa
open Go.RowKit Go.ChangeShapes Go.WideShapes Go.ChangeAt

theorem add_block (a : Addr) (i : Nat) : (a.add i).block = a.block := by unfold Addr.add; split <;> rfl

section
variable {H : Type} {enc : TypeId × Value → H} {P : Program} {w : World}
end

end Go.Proofs.Ytgnjknboahcmgaa

/- Parameters that are structs of numbers alone: opened (shut by Below.trod: XArgs). -/
namespace Go.Proofs.Ytgnjknboahcmgaa
set_option maxRecDepth 100000
open Go.RowKit Go.ChangeShapes Go.WideShapes Go.ChangeAt

/-- a cell's number -/
def numIn : Value → Int
  | .int _ a => a
  | _ => 0
theorem list6 {α : Type} {l : List α} (h : l.length = 6) : ∃ a b c d e f, l = [a, b, c, d, e, f] := by
  match l, h with
  | [a, b, c, d, e, f], _ => exact ⟨a, b, c, d, e, f, rfl⟩
section
variable {H : Type} {enc : TypeId × Value → H} {P : Program} {w : World}
theorem open_intsN {base : Nat} {sp : Nat → Bool} {held : Bool} {r : Go.Reach} {b0 : Nat} {t : TypeId} {fs : Array Field} {v : Value} {d : DataW H} {ps : List MemPlace} (hs : P.underlying t = some (.struct fs)) (hone : Deep.oneCellFields P fs = true)
    (hint : ∀ (i : Nat) f, fs[i]? = some f → P.underlying f.type = some (.int .i64)) (hC : P.cellsOf t = fs.size)
    (hval : Value.okWide P w r b0 t v) (hd : DataW.Trod enc P w base sp held t v d ps) : ∃ zs : List Int, zs.length = fs.size ∧ v = .agg (zs.map (Value.int .i64)).toArray := by
  obtain ⟨cs, rfl, hsz⟩ := okWide_struct hs hval
  obtain ⟨fuel, hf⟩ := hd
  obtain ⟨xs, n, _, _, hl, hlen, hx⟩ := DataW.trod_struct hs hf
  have hcs : cs.size = fs.size := hsz.trans hC
  refine ⟨cs.toList.map numIn, by simp [hcs], ?_⟩
  congr 1
  apply Array.ext_getElem?
  intro i
  by_cases hi : i < cs.size
  · have hif : i < fs.size := by omega
    have hfi : fs[i]? = some fs[i] := by simp [hif]
    have h1 := hx i fs[i] hfi
    obtain ⟨o0, k0⟩ := Deep.hone_of hone i fs[i] hfi
    have hxi : i < xs.length := by omega
    rw [o0, k0, List.getElem?_eq_getElem hxi] at h1
    obtain ⟨a, ha, _⟩ := DataW.trod_int (hint i fs[i] hfi) h1
    have hc : cs[i]? = some (.int .i64 a) := by
      have h2 : (List.take 1 (List.drop i (Value.agg cs).cells.toList))[0]? = some (.int .i64 a) := by rw [ha]; rfl
      rw [List.getElem?_take_of_lt (by decide), List.getElem?_drop] at h2
      simpa [Value.cells] using h2
    rw [hc]
    simp [hc, numIn]
  · rw [Array.getElem?_eq_none (by omega), Array.getElem?_eq_none (by simp; omega)]
end

end Go.Proofs.Ytgnjknboahcmgaa

/- Parameters of two numbers: opened and shut. -/
namespace Go.Proofs.Ytgnjknboahcmgaa
set_option maxRecDepth 100000
open Go.RowKit

section
variable {H : Type} {enc : TypeId × Value → H} {P : Program}
end

end Go.Proofs.Ytgnjknboahcmgaa
