/- Texts of one claim, merged: Inv8, StL5. -/
import Derived.Test.YtgnjknboahcmgaaS8
import Derived.Test.YtgnjknboahcmgaaS5

/- As XInv7, where what holds may ask whether one operation (z) has been: those that come ahead of it know that it has not. -/
namespace Go.Proofs.Ytgnjknboahcmgaa

section
variable {P : Program} {ops : Array Oper} {Q : Exit → Act → World → Prop} {md : Region.Mode}

theorem wpAny_facts2Z {Base : Act → Prop} {C : Bool → Act → World → Prop} {T : World → World → Prop} {R : Nat → Act → World → Prop} {S : Nat → List Tmp} (z : Nat) (Pre : Nat → Bool) (hzb : z < ops.size)
    (hpre : ∀ i, Pre i = true → i < ops.size → Reach ops md z i)
    (hbefore : ∀ (i : Nat) (o : Oper), ops[i]? = some o → ∀ e ∈ o.after, Region.binds md e = true → e.on < i)
    (hslots : ∀ (i j : Nat) (o o' : Oper), ops[i]? = some o → ops[j]? = some o' → j ≠ i → (∀ e ∈ o'.after, Region.binds md e = true → e.on ≠ i) → ∀ d, o.dst = some d → d ∉ S j)
    (hext : ∀ j a a' w w', R j a w → (∀ s ∈ S j, a'.tmps.getD s undef = a.tmps.getD s undef) → T w w' → R j a' w')
    (hbase : ∀ (i : Nat) (o : Oper), ops[i]? = some o → ∀ a v, Base a → Base (a.put o.dst v))
    (hops : ∀ (i : Nat) (o : Oper), ops[i]? = some o → ∀ b a w, (Pre i = true → b = false) → C b a w → Base a → (∀ e ∈ o.after, Region.binds md e = true → R e.on a w) →
      wpOp P ops Q i (fun a' w' => ∃ v, a' = a.put o.dst v ∧ C (b || i == z) a' w' ∧ T w w' ∧ R i a' w') a w)
    (hfin : ∀ a w, C true a w → Base a → (∀ i, i < ops.size → R i a w) → Q .normal a w) :
    ∀ (fuel : Nat) (listed : Array Bool) (a : Act) (w : World), still ops.size listed ≤ fuel → listed.size = ops.size → C (listed.getD z true) a w → Base a →
      (∀ i, i < ops.size → listed.getD i true = true → R i a w ∧ ∀ o, ops[i]? = some o → ∀ e ∈ o.after, Region.binds md e = true → listed.getD e.on true = true) → wpAny P md ops Q fuel listed a w := by
  have all : ∀ (listed : Array Bool), listed.size = ops.size → Region.ready md ops listed = [] → ∀ i, i < ops.size → listed.getD i true = true := by
    intro listed hsz hr i
    induction i using Nat.strongRecOn with
    | ind i ih =>
      intro hi
      cases hl : listed.getD i true with
      | true => rfl
      | false =>
        exfalso
        have hm : i ∈ Region.ready md ops listed := by
          rw [mem_ready]
          refine ⟨hl, ops[i], by simp [hi], fun e he hb => ?_⟩
          have hlt := hbefore i ops[i] (by simp [hi]) e he hb
          have h2 := ih e.on hlt (by omega)
          have h3 : e.on < listed.size := by omega
          simp [Array.getD, h3] at h2 ⊢
          exact h2
        rw [hr] at hm; cases hm
  intro fuel
  induction fuel with
  | zero =>
    intro listed a w hst hsz hC hB hR
    have hall := still_zero (Nat.le_zero.1 hst)
    have hr : Region.ready md ops listed = [] := by
      cases h : Region.ready md ops listed with
      | nil => rfl
      | cons i l =>
        have hm : i ∈ Region.ready md ops listed := by rw [h]; exact List.mem_cons_self
        obtain ⟨h1, o, ho, _⟩ := mem_ready.1 hm
        have hi : i < ops.size := (Array.getElem?_eq_some_iff.1 ho).1
        rw [hall i hi] at h1; cases h1
    rw [hall z hzb] at hC
    exact ⟨hr, hfin a w hC hB fun i hi => (hR i hi (hall i hi)).1⟩
  | succ fuel ih =>
    intro listed a w hst hsz hC hB hR
    refine ⟨fun hr => hfin a w (by rw [all listed hsz hr z hzb] at hC; exact hC) hB fun i hi => (hR i hi (all listed hsz hr i hi)).1, fun i hi => ?_⟩
    obtain ⟨h1, o, ho, hdeps⟩ := mem_ready.1 hi
    have hin : i < ops.size := (Array.getElem?_eq_some_iff.1 ho).1
    have hdl : ∀ e ∈ o.after, Region.binds md e = true → listed.getD e.on true = true := by
      intro e he hb
      have hlt := hbefore i o ho e he hb
      have h2 := hdeps e he hb
      have h3 : e.on < listed.size := by omega
      simp [Array.getD, h3] at h2 ⊢
      exact h2
    refine wpOp_mono ?_ (hops i o ho (listed.getD z true) a w (fun hp => by
      cases hz : listed.getD z true with
      | false => rfl
      | true =>
        exfalso
        have hcl : ∀ (k : Nat) (o : Oper), ops[k]? = some o → listed.getD k true = true → ∀ e ∈ o.after, Region.binds md e = true → listed.getD e.on true = true := fun k o ho' hk e' he' hb' => (hR k (Array.getElem?_eq_some_iff.1 ho').1 hk).2 o ho' e' he' hb'
        have h4 := (hpre i hp hin).listed hcl hz
        rw [h1] at h4; cases h4) hC hB fun e he hb => (hR e.on (by have := hbefore i o ho e he hb; omega) (hdl e he hb)).1)
    rintro a' w' ⟨v, rfl, hC', hT, hRv⟩
    have hless := still_less hin h1
    have keep : ∀ k, listed.getD k true = true → (listed.setIfInBounds i true).getD k true = true := by
      intro k hk
      by_cases e : k = i
      · subst e
        have hs : k < listed.size := by omega
        simp [Array.getD, hs]
      · rw [getD_set_ne true (Ne.symm e)]; exact hk
    have hCn : (listed.setIfInBounds i true).getD z true = (listed.getD z true || i == z) := by
      by_cases e : i = z
      · subst e
        have hs : i < listed.size := by omega
        simp [Array.getD, hs]
      · rw [getD_set_ne true e]; simp [e]
    rw [← hCn] at hC'
    refine ih _ _ _ (by omega) (by simp [hsz]) hC' (hbase i o ho a v hB) fun j hj hlj => ?_
    by_cases e : j = i
    · subst e
      refine ⟨hRv, fun o' ho' e he hb => keep _ ?_⟩
      obtain rfl : o' = o := Option.some.inj (ho'.symm.trans ho)
      exact hdl e he hb
    · rw [getD_set_ne true (Ne.symm e)] at hlj
      obtain ⟨hRj, hdj⟩ := hR j hj hlj
      refine ⟨hext j a _ w w' hRj (fun s hs => put_slot fun x hx hxs => ?_) hT, fun o' ho' e he hb => keep _ (hdj o' ho' e he hb)⟩
      subst hxs
      refine hslots i j o ops[j] ho (by simp [hj]) e (fun e' he' hb' hne => ?_) x hx hs
      have := hdj ops[j] (by simp [hj]) e' he' hb'
      rw [hne, h1] at this; cases this

/-- do all of these come ahead of operation z? -/
def preB (l : List Oper) (z : Nat) (Pre : Nat → Bool) : Bool := (List.range l.length).all fun i => !Pre i || reachB l 8 z i
/-- what an operation leaves: its slot written, the world in the class and gone on, its own fact -/
def LeavesZ (C : Bool → Act → World → Prop) (z : Nat) (b : Bool) (T : World → World → Prop) (R : Nat → Act → World → Prop) (i : Nat) (o : Oper) (a : Act) (w : World) (a' : Act) (w' : World) : Prop := ∃ v, a' = a.put o.dst v ∧ C (b || i == z) a' w' ∧ T w w' ∧ R i a' w'
/-- .. where operations may be guarded: an operation that is not wanted leaves its slot undefined -/
theorem wp_region_list3Z {id : Nat} {l : List Oper} {a : Act} {w : World} (z : Nat) (Pre : Nat → Bool) (S : List (List Tmp)) (Base : Act → Prop) (C : Bool → Act → World → Prop) (T : World → World → Prop) (R : Nat → Act → World → Prop) (hm : P.follows .mixedOrders = true)
    (hzl : z < l.length) (hpB : preB l z Pre = true) (hpl : planB l S = true) (hext : ∀ j a a' w w', R j a w → (∀ s ∈ S.getD j [], a'.tmps.getD s undef = a.tmps.getD s undef) → T w w' → R j a' w')
    (hbase : AllFrom (fun _ o => ∀ a v, Base a → Base (a.put o.dst v)) 0 l) (hC : C false a { w with drawn := w.drawn + 1 }) (hB : Base a)
    (hops : AllFrom (fun i o => ∀ b a w, (Pre i = true → b = false) → C b a w → Base a → (∀ e ∈ o.after, Region.binds .any e = true → R e.on a w) →
      if Region.wanted o (yielded l.toArray a.tmps) = true then o.wp P a w (LeavesZ C z b T R i o a w) Q
      else LeavesZ C z b T R i o a w (a.put o.dst undef) w) 0 l)
    (hfin : ∀ a w, C true a w → Base a → (∀ i, i < l.length → R i a w) → Q .normal a w) : (Code.region id l.toArray true).wp P Q a w := by
  have hp := List.all_eq_true.1 hpl
  refine wp_region_any hm (wpAny_facts2Z z Pre (by simpa using hzl) ?_ (S := fun j => S.getD j []) (Base := Base) (C := C) (T := T) (R := R) ?_ ?_ hext hbase.all
    (fun i o ho b a w h0 h1 h2 h3 => ?_)
    (fun a w h1 h2 h3 => hfin a w h1 h2 fun i hi => h3 i (by simpa using hi)) _ _ _ _ ?_ (by simp) (by simpa [Array.getD, hzl] using hC) hB ?_)
  · intro i hp hi
    have hi' : i < l.length := by simpa using hi
    unfold preB at hpB
    have h1 := List.all_eq_true.1 hpB i (List.mem_range.2 hi')
    rw [hp] at h1
    simp only [Bool.not_true, Bool.false_or] at h1
    exact reachB.reach 8 z i h1
  · intro i o ho e he hb
    have ho' : l[i]? = some o := by simpa using ho
    have h1 := hp i (List.mem_range.2 (List.getElem?_eq_some_iff.1 ho').1)
    simp only [ho', Bool.and_eq_true] at h1
    have h2 := (Array.all_eq_true_iff_forall_mem.1 h1.1) e he
    simpa [hb] using h2
  · intro i j o o' ho ho' hne hno d hd
    have hi : l[i]? = some o := by simpa using ho
    have hj : l[j]? = some o' := by simpa using ho'
    have h1 := hp i (List.mem_range.2 (List.getElem?_eq_some_iff.1 hi).1)
    simp only [hi, hd, Bool.and_eq_true] at h1
    have h2 := List.all_eq_true.1 h1.2 j (List.mem_range.2 (List.getElem?_eq_some_iff.1 hj).1)
    simp only [hj, Bool.or_eq_true, beq_iff_eq] at h2
    rcases h2 with h2 | h2 | h2
    · exact absurd h2 hne
    · obtain ⟨k, hk, hb⟩ := Array.any_eq_true.1 h2
      obtain ⟨e, he⟩ : ∃ e, e = o'.after[k] := ⟨_, rfl⟩
      rw [← he] at hb
      have he : e ∈ o'.after := by rw [he]; exact Array.getElem_mem hk
      simp only [Bool.and_eq_true, beq_iff_eq] at hb
      exact absurd hb.2 (hno e he hb.1)
    · intro hm
      simp at h2
      exact h2 hm
  · have h4 := hops.all i o ho b a w h0 h1 h2 h3
    unfold wpOp
    simp only [ho]
    by_cases hw : Region.wanted o (yielded l.toArray a.tmps) = true
    · rw [if_pos hw] at h4 ⊢
      exact Or.inl h4
    · rw [if_neg hw] at h4 ⊢
      exact h4
  · unfold still
    exact Nat.le_trans (List.length_filter_le _ _) (by simp)
  · intro i hi h
    have hi' : i < l.length := by simpa using hi
    simp [Array.getD] at h
    omega

end
end Go.Proofs.Ytgnjknboahcmgaa

/- Layer 14, the laws: StateApplies. -/
namespace Go.Proofs.Ytgnjknboahcmgaa
set_option maxRecDepth 100000
open Go.RowKit

theorem SnG.out {J0 J1 : Nat} {w w' : World} {A : Array Value} {x : Sn} (h : SnG J0 J1 w A x) (ho : Out J0 J1 w w') : SnG J0 J1 w' A x :=
  h.keep ho.1.size fun b hl hb => by
    rcases hb with hb | hb
    · exact ho.1.block b hb
    · exact ho.2 b hb hl
/-- what each operation of region 12 leaves -/
def SpAP (U0 U1 : Nat) (wr : World) (y : Sn) (ec : Int) (j : Nat) (a : Act) (w : World) : Prop := match j with
  | 5 => ∃ A, a.tmps.getD 73 undef = .tuple #[.agg A, .int .i64 ec] ∧ SnG U0 U1 w A y
  | 6 => ∃ A, a.tmps.getD 67 undef = .tuple #[.agg A, .int .i64 ec] ∧ SnG U0 U1 w A y
  | 7 => ∃ A, a.tmps.getD 74 undef = .agg A ∧ SnG U0 U1 w A y
  | 9 => ∃ q cs, a.tmps.getD 12 undef = .pointer (some ⟨q, 0, none⟩) ∧ wr.heap.size ≤ q ∧ Blk w q cs 32 ∧ cs.size = 4 ∧ AllSl cs
  | 10 => ∃ q, a.tmps.getD 12 undef = .pointer (some ⟨q, 0, none⟩) ∧ StP U0 U1 wr y q w
  | _ => True
def fAP (j : Nat) : List Tmp := if j = 5 then [73] else if j = 6 then [67] else if j = 7 then [74] else [12]
theorem SpAP.ext {U0 U1 : Nat} (wr : World) (y : Sn) (ec : Int) : ∀ (j : Nat) (a a' : Act) (w w' : World), SpAP U0 U1 wr y ec j a w → (∀ d ∈ fAP j, a'.tmps.getD d undef = a.tmps.getD d undef) → TS U0 U1 wr y w w' → SpAP U0 U1 wr y ec j a' w' := by
  intro j a a' w w' h hd hT
  unfold SpAP at h ⊢
  split at h
  · obtain ⟨A, h1, h2⟩ := h; exact ⟨A, (hd 73 (by simp [fAP])).trans h1, hT.1 _ _ h2⟩
  · obtain ⟨A, h1, h2⟩ := h; exact ⟨A, (hd 67 (by simp [fAP])).trans h1, hT.1 _ _ h2⟩
  · obtain ⟨A, h1, h2⟩ := h; exact ⟨A, (hd 74 (by simp [fAP])).trans h1, hT.1 _ _ h2⟩
  · obtain ⟨q, cs, h1, h2, h3, h4, h5⟩ := h
    obtain ⟨cs', h6, h7, h8⟩ := hT.2.1 q cs h5 h4 h3
    exact ⟨q, cs', (hd 12 (by simp [fAP])).trans h1, h2, h8, h7, h6⟩
  · obtain ⟨q, h1, h2⟩ := h; exact ⟨q, (hd 12 (by simp [fAP])).trans h1, hT.2.2 _ h2⟩
  · trivial

/-- what each operation of the region AP leaves -/
def vsAP (g o2 L cap i : Nat) (D : Array Value) (rk rp rq ec : Int) : List (Option (Tmp × Value)) :=
  [some (68, .agg D), some (69, .slice (some ⟨g, o2, none⟩) L cap), some (70, .int .i64 (i : Int)), some (71, .pointer (some ⟨g, o2 + i * 3, none⟩)), some (72, .agg (ra rk rp rq)), none, none, none, some (75, .int .i64 ec), none, none, some (13, .int .i64 ec)]

/-- the world of StateApplies: the keeper and the reference have z -/
def SaW (w0 : World) (J0 J1 o q : Nat) (b l y n s r : Int) (oa oa2 : Option Addr) (rs ms : List Rc) (z : Sn) (D : Array Value) (w : World) : Prop :=
  (Kp J0 J1 w o z ∧ SnG J0 J1 w D z) ∧ (Blk w w0.heap.size (gv b l y n s r) 23 ∧ Blk w q D 32 ∧ J1 ≤ q) ∧ (XsB J0 w oa rs ∧ XsB J0 w oa2 ms) ∧ Below w0.heap.size w0 w ∧ (w0.heap.size < J0 ∧ J0 ≤ J1)
theorem SaW.call {w0 w w' : World} {J0 J1 o q : Nat} {b l y n s r : Int} {oa oa2 : Option Addr} {rs ms : List Rc} {z : Sn} {D : Array Value} (h : SaW w0 J0 J1 o q b l y n s r oa oa2 rs ms z D w) (hb : Below w.heap.size w w') : SaW w0 J0 J1 o q b l y n s r oa oa2 rs ms z D w' := by
  have hk := kp_size h.1.1
  exact ⟨⟨h.1.1.call hb, h.1.2.below hb⟩, ⟨h.2.1.1.after hb, h.2.1.2.1.after hb, h.2.1.2.2⟩, ⟨h.2.2.1.1.keep (hb.mono hk.1), h.2.2.1.2.keep (hb.mono hk.1)⟩, h.2.2.2.1.trans (hb.mono h.2.2.2.1.size), h.2.2.2.2⟩
/-- both have been changed -/
theorem SaW.turn {w0 w w' : World} {J0 J1 o q : Nat} {b l y n s r : Int} {oa oa2 : Option Addr} {rs ms : List Rc} {z z2 : Sn} {D A2 : Array Value} (h : SaW w0 J0 J1 o q b l y n s r oa oa2 rs ms z D w) (hs : SnG J0 J1 w A2 z2) (ho : Out J0 J1 (w.setRow q A2) w') (hk : Kp J0 J1 w' o z2) : SaW w0 J0 J1 o q b l y n s r oa oa2 rs ms z2 A2 w' := by
  have h2 := h.2.2.2.2
  have h3 := h.2.1.2.2
  have hq := h.2.1.2.1
  have hb1 : Below J0 w (w.setRow q A2) := below_put (by omega) _ (Below.refl _ _)
  exact ⟨⟨hk, (sn_put_row hq (snAt_all h.1.2) A2 hs).out ho⟩, ⟨(h.2.1.1.put_other (by omega) _).out ho (Or.inl h2.1), (hq.put _).out ho (Or.inr h3), h3⟩, ⟨(h.2.2.1.1.keep hb1).keep ho.1, (h.2.2.1.2.keep hb1).keep ho.1⟩,
    (below_put (by omega) _ h.2.2.2.1).trans (ho.1.mono (by omega)), h2⟩
theorem lenE_new {z : Sn} {b n : Nat} (h : LenE z (newX b n)) : z.f.length = n ∧ z.c.length = b ∧ z.s.length = b ∧ z.t.length = b := by
  obtain ⟨h1, h2, h3, h4⟩ := h
  simp only [newX, List.length_replicate] at h1 h2 h3 h4
  exact ⟨h1, h2, h3, h4⟩
theorem ivg_some {U0 U1 : Nat} {w : World} {v : Value} {l : List Int} {n : Nat} (h : IvG U0 U1 w v l) (hl : l.length = n) (hn : 1 ≤ n) : ∃ g o c, v = .slice (some ⟨g, o, none⟩) n c ∧ ∀ i, i < n → w.cell? ⟨g, o + i, none⟩ = some (.int .i64 (l.getD i 0)) := by
  obtain ⟨oa, cap, rfl, _, hk⟩ := h
  obtain ⟨b, off, rfl, _, _, hc⟩ := hk (by intro h0; rw [h0] at hl; simp at hl; omega)
  subst hl
  refine ⟨b, off, cap, rfl, fun i hi => ?_⟩
  rw [hc i hi, List.getD_eq_getElem?_getD, List.getElem?_eq_getElem hi]
  rfl

/-- State of a keeper with so many numbers -/
theorem kp_stateG {K0 K1 o n b : Nat} {x : Sn} {w : World} (h : Kp K0 K1 w o x) (hn : x.f.length = n) (hb : x.c.length = b) (hz : n ≤ 1000000 ∧ b ≤ 1000000) : Calls Try.prog 13 #[.pointer (some ⟨o, 0, none⟩)] w (StT n b x w) := by
  obtain ⟨K, h⟩ := h
  have h1 := h.len
  obtain rfl : K.n = n := by omega
  obtain rfl : K.b = b := by omega
  exact st_state K0 K1 o K x w h hz
theorem XsB.at {K0 : Nat} {w : World} {oa : Option Addr} {l : List Rc} (h : XsB K0 w oa l) (hK : K0 ≤ w.heap.size) : XsAt w oa l := fun hl => by
  obtain ⟨b, off, ho, hlt, hc⟩ := h hl
  exact ⟨b, off, ho, by omega, hc⟩
/-- All of a keeper -/
theorem al_is {K0 K1 o : Nat} {x : Sn} {oa : Option Addr} {cap M : Nat} {l : List Rc} {w : World} (h : Kp K0 K1 w o x) (hB : CntB x) (hl : l.length = M) (hM : M ≤ 1000000) (hr : XsB K0 w oa l) :
    Calls Try.prog 16 #[.pointer (some ⟨o, 0, none⟩), .slice oa M cap] w fun e w' => e = .returned (.int .i64 (allE x l)) ∧ Kp K0 K1 w' o (allX x l) ∧ Out K0 K1 w w' := by
  obtain ⟨K, h⟩ := h
  subst hl
  refine (st_all K0 K1 o K x oa cap l w h hB hM hr).mono ?_
  rintro e w' ⟨h1, h2, h3⟩
  exact ⟨h1, ⟨K, h2⟩, h3⟩
/-- what the reference has come to, and what is read beside it -/
def SbW (w0 : World) (J0 J1 t9 : Nat) (b l y n s r : Int) (oa2 : Option Addr) (ms : List Rc) (zz : Sn) (A : Array Value) (w : World) : Prop :=
  SnG J0 J1 w A zz ∧ Blk w t9 A 32 ∧ XsB J0 w oa2 ms ∧ Blk w w0.heap.size (gv b l y n s r) 23 ∧ Below w0.heap.size w0 w ∧ (w0.heap.size < J0 ∧ J0 ≤ J1 ∧ J1 ≤ t9 ∧ J1 ≤ w.heap.size)
theorem SbW.call {w0 w w' : World} {J0 J1 t9 : Nat} {b l y n s r : Int} {oa2 : Option Addr} {ms : List Rc} {zz : Sn} {A : Array Value} (h : SbW w0 J0 J1 t9 b l y n s r oa2 ms zz A w) (hb : Below w.heap.size w w') : SbW w0 J0 J1 t9 b l y n s r oa2 ms zz A w' := by
  obtain ⟨h1, h2, h3, h4, h5, h6⟩ := h
  have := hb.size
  exact ⟨h1.below hb, h2.after hb, h3.keep (hb.mono (by omega)), h4.after hb, h5.trans (hb.mono h5.size), by omega⟩
theorem SbW.out {w0 w w' : World} {J0 J1 t9 : Nat} {b l y n s r : Int} {oa2 : Option Addr} {ms : List Rc} {zz : Sn} {A : Array Value} (h : SbW w0 J0 J1 t9 b l y n s r oa2 ms zz A w) (ho : Out J0 J1 w w') : SbW w0 J0 J1 t9 b l y n s r oa2 ms zz A w' := by
  obtain ⟨h1, h2, h3, h4, h5, h6⟩ := h
  have := ho.1.size
  exact ⟨h1.out ho, h2.out ho (Or.inr (by omega)), h3.keep ho.1, h4.out ho (Or.inl (by omega)), h5.trans (ho.1.mono (by omega)), by omega⟩
/-- the changed keeper stays, and so do rows beyond it -/
def TA (J0 J1 o n b : Nat) (zz : Sn) (w w' : World) : Prop := (Kp J0 J1 w o zz → Kp J0 J1 w' o zz) ∧ ∀ g0 g1 g2 g3 k0 k1 k2 k3, Rw4 J1 g0 g1 g2 g3 k0 k1 k2 k3 n b zz w → Rw4 J1 g0 g1 g2 g3 k0 k1 k2 k3 n b zz w'
theorem TA.refl (J0 J1 o n b : Nat) (zz : Sn) (w : World) : TA J0 J1 o n b zz w w := ⟨fun h => h, fun _ _ _ _ _ _ _ _ h => h⟩
theorem TA.call {J0 J1 o n b : Nat} {zz : Sn} {w w' : World} (hb : Below w.heap.size w w') : TA J0 J1 o n b zz w w' := ⟨fun h => h.call hb, fun _ _ _ _ _ _ _ _ h => h.call hb⟩
theorem TA.outs {J0 J1 o n b : Nat} {zz : Sn} {w w' : World} (ho : Out J0 J1 w w') (hk : Kp J0 J1 w' o zz) : TA J0 J1 o n b zz w w' := ⟨fun _ => hk, fun _ _ _ _ _ _ _ _ h => h.out ho (Nat.le_refl _)⟩
def SpSA (J0 J1 o n b : Nat) (zz : Sn) (ec : Int) (j : Nat) (a : Act) (w : World) : Prop := match j with
  | 2 => a.tmps.getD 153 undef = .int .i64 ec ∧ Kp J0 J1 w o zz
  | 4 => a.tmps.getD 155 undef = .bool false ∧ Kp J0 J1 w o zz
  | 5 => a.tmps.getD 156 undef = .bool false ∧ Kp J0 J1 w o zz
  | 7 => ∃ g0 g1 g2 g3 k0 k1 k2 k3, a.tmps.getD 158 undef = .agg (kpV g0 g1 g2 g3 k0 k1 k2 k3 n b) ∧ Rw4 J1 g0 g1 g2 g3 k0 k1 k2 k3 n b zz w
  | _ => True
def fSA (j : Nat) : List Tmp := if j = 2 then [153] else if j = 4 then [155] else if j = 5 then [156] else [158]
theorem SpSA.ext (J0 J1 o n b : Nat) (zz : Sn) (ec : Int) : ∀ (j : Nat) (a a' : Act) (w w' : World), SpSA J0 J1 o n b zz ec j a w → (∀ d ∈ fSA j, a'.tmps.getD d undef = a.tmps.getD d undef) → TA J0 J1 o n b zz w w' → SpSA J0 J1 o n b zz ec j a' w' := by
  intro j a a' w w' h hd hT
  unfold SpSA at h ⊢
  split at h
  · exact ⟨(hd 153 (by simp [fSA])).trans h.1, hT.1 h.2⟩
  · exact ⟨(hd 155 (by simp [fSA])).trans h.1, hT.1 h.2⟩
  · exact ⟨(hd 156 (by simp [fSA])).trans h.1, hT.1 h.2⟩
  · obtain ⟨g0, g1, g2, g3, k0, k1, k2, k3, h1, h2⟩ := h
    exact ⟨g0, g1, g2, g3, k0, k1, k2, k3, (hd 158 (by simp [fSA])).trans h1, hT.2 _ _ _ _ _ _ _ _ h2⟩
  · trivial

/-- what each operation of the region SA leaves -/
def vsSA (o M cap2 : Nat) (oa2 : Option Addr) (A2 : Array Value) (ec : Int) : List (Option (Tmp × Value)) :=
  [some (151, .pointer (some ⟨o, 0, none⟩)), some (152, .slice oa2 M cap2), none, some (154, .int .i64 ec), none, none, some (157, .pointer (some ⟨o, 0, none⟩)), none, some (159, .agg A2), some (160, .bool true), some (161, .bool false), some (162, .bool false)]

theorem allX_len : ∀ (l : List Rc) (x : Sn), LenE (allX x l) x
  | [], x => ⟨rfl, rfl, rfl, rfl⟩
  | r :: l, x => by
    unfold allX
    split
    · obtain ⟨e1, e2, e3, e4⟩ := allX_len l (chgX x r)
      obtain ⟨f1, f2, f3, f4⟩ := LenE.chg x r
      exact ⟨e1.trans f1, e2.trans f2, e3.trans f3, e4.trans f4⟩
    · exact ⟨rfl, rfl, rfl, rfl⟩

set_option maxHeartbeats 8000000 in
theorem walk_StateApplies (b l y n s r : Int) (oa : Option Addr) (cap : Nat) (rs : List Rc) (oa2 : Option Addr) (cap2 : Nat) (ms : List Rc) (_ : rs.length ≤ cap ∧ cap ≤ maxLen) (_ : ms.length ≤ cap2 ∧ cap2 ≤ maxLen) (w : World) (hr : XsAt w oa rs) (hm : XsAt w oa2 ms) :
    Calls Try.prog 3 #[.agg (gv b l y n s r), .slice oa rs.length cap, .slice oa2 ms.length cap2] w fun e w' => e = .returned (.bool true) ∧ Below w.heap.size w w' := by
  obtain ⟨L, hL⟩ : ∃ L, rs.length = L := ⟨_, rfl⟩
  obtain ⟨M, hM⟩ : ∃ M, ms.length = M := ⟨_, rfl⟩
  have HLN := Lib.hid hL
  have HMN := Lib.hid hM
  obtain ⟨w1, hw1⟩ : ∃ w1, w.alloc (.cells (gv b l y n s r) 23) = w1 := ⟨_, rfl⟩
  have hg1 : Blk w1 w.heap.size (gv b l y n s r) 23 := by rw [← hw1]; exact Blk.new _ _ _
  have hb1 : Below w.heap.size w w1 := by rw [← hw1]; exact (Below.refl _ _).alloc (Nat.le_refl _) _
  have hz1 : w1.heap.size = w.heap.size + 1 := by rw [← hw1]; simp
  have HXS := Lib.hid hr
  have HXM := Lib.hid hm
  have HG1 := Lib.hid hg1
  have HB1 := Lib.hid hb1
  have HZ1 := Lib.hid hz1
  have c3 : w1.cell? ⟨w.heap.size, 3, none⟩ = some (.int .i64 n) := hg1.cell 3
  rw [hL, hM]
  clear hr hm hL hM hg1 hb1 hz1
  by_cases hbig : 300 < n ∨ 100 < L ∨ 100 < M
  · have HWK : Hid (Calls Try.prog 7 #[] w1 fun e w' => e = .returned (.bool true) ∧ Below w.heap.size w w') := by
      refine (st_works w1).mono ?_
      rintro e w2 ⟨rfl, hb2⟩
      exact ⟨rfl, HB1.out.trans (hb2.mono HB1.out.size)⟩
    rcases (show (300 < n) ∨ (¬ 300 < n ∧ 100 < L) ∨ (¬ 300 < n ∧ ¬ 100 < L ∧ 100 < M) by omega) with h | ⟨h, h2⟩ | ⟨h, h2, h3⟩
    · clear hbig
      go_enter Try.func3, Try.ntmps3
      go_wp2_with fail
      refine HWK.out.mono ?_
      rintro e w2 ⟨rfl, hb2⟩
      have HB2 := Lib.hid hb2
      clear hb2
      go_wp2_with fail
      go_ret
      exact ⟨rfl, HB2.out⟩
    · have h2z : (100 : Int) < (L : Int) := by omega
      clear hbig
      go_enter Try.func3, Try.ntmps3
      go_wp2_with fail
      refine HWK.out.mono ?_
      rintro e w2 ⟨rfl, hb2⟩
      have HB2 := Lib.hid hb2
      clear hb2
      go_wp2_with fail
      go_ret
      exact ⟨rfl, HB2.out⟩
    · have h2z : ¬ (100 : Int) < (L : Int) := by omega
      have h3z : (100 : Int) < (M : Int) := by omega
      clear hbig
      go_enter Try.func3, Try.ntmps3
      go_wp2_with fail
      refine HWK.out.mono ?_
      rintro e w2 ⟨rfl, hb2⟩
      have HB2 := Lib.hid hb2
      clear hb2
      go_wp2_with fail
      go_ret
      exact ⟨rfl, HB2.out⟩
  have hn : ¬ 300 < n := by omega
  have hLz : ¬ (100 : Int) < (L : Int) := by omega
  have hMz : ¬ (100 : Int) < (M : Int) := by omega
  have HLB : Hid (L ≤ 100 ∧ M ≤ 100) := by show L ≤ 100 ∧ M ≤ 100; omega
  clear hbig
  go_enter Try.func3, Try.ntmps3
  go_wp2_with (first
    | (refine wpList_load_row rfl 23 (.tmp 3) rfl w.heap.size rfl 23 (gv b l y n s r) (0, 0) _ HG1.out Try.underlying23 rfl size_geo ?_))
  refine (st_new b l y n s r w1).mono ?_
  rintro e w2 ⟨hy, hno, hb2⟩
  have HG2 := Lib.hid (HG1.out.after hb2)
  have HB2 := Lib.hid (HB1.out.trans (hb2.mono HB1.out.size))
  by_cases hok : OkG b l y n s r
  · obtain ⟨o, rfl, hk⟩ := hy hok
    have HXS2 : Hid (XsB w1.heap.size w2 oa rs) := XsB.of HXS.out HB2.out HB1.out.size
    have HXM2 : Hid (XsB w1.heap.size w2 oa2 ms) := XsB.of HXM.out HB2.out HB1.out.size
    have HK2 := Lib.hid hk
    have HZ2 : Hid (w.heap.size < w1.heap.size ∧ w1.heap.size ≤ w2.heap.size) := ⟨by rw [HZ1.out]; omega, hb2.size⟩
    have HOK := Lib.hid hok
    clear hy hno hb2 hok hk c3 HXS HXM HB1 HG1
    obtain ⟨J0, hJ0⟩ : ∃ K, w1.heap.size = K := ⟨_, rfl⟩
    obtain ⟨J1, hJ1⟩ : ∃ K, w2.heap.size = K := ⟨_, rfl⟩
    rw [hJ0] at HK2 HXS2 HXM2 HZ2
    rw [hJ1] at HK2 HZ2
    have HJ1 := Lib.hid hJ1
    clear hw1 HZ1 hJ0 hJ1
    go_wp2_with (refine wpList_load_row rfl 23 (.tmp 3) rfl w.heap.size rfl 23 (gv b l y n s r) (0, 0) _ HG2.out Try.underlying23 rfl size_geo ?_)
    refine (rst_new b l y n s r w2).mono ?_
    rintro e w3 ⟨hy3, _, hb3⟩
    obtain ⟨D, rfl, hsn⟩ := hy3 HOK.out
    have hsn : SnG J0 J1 w3 D (newX b.toNat n.toNat) := hsn J0 J1 (by rw [HJ1.out]; exact Nat.le_refl _)
    have HK3 := Lib.hid (HK2.out.call hb3)
    have HS3 := Lib.hid hsn
    have HG3 := Lib.hid (HG2.out.after hb3)
    have HB3 := Lib.hid (HB2.out.trans (hb3.mono HB2.out.size))
    have HXS3 := Lib.hid (HXS2.out.keep (hb3.mono (kp_size HK2.out).1))
    have HXM3 := Lib.hid (HXM2.out.keep (hb3.mono (kp_size HK2.out).1))
    clear hy3 hsn hb3 HK2 HG2 HB2 HXS2 HXM2
    have HSZ0 : Hid ((Try.prog.info? 32).map (·.size) = some D.size) := snAt_sizeT HS3.out
    have HSZ4 : Hid (nil4.size = D.size) := snAt_four4 HS3.out
    have HZN : Hid (Blk (w3.alloc (.cells #[.slice none 0 0, .slice none 0 0, .slice none 0 0, .slice none 0 0] 32)) w3.heap.size nil4 32) := Blk.new _ _ _
    go_upto_region 5 with (refine wpList_store_row rfl 32 (.tmp 9) (.tmp 46) rfl w3.heap.size D rfl rfl 32 nil4 HZN.out HSZ0.out HSZ4.out (snAt_oneT HS3.out) ?_)
    have hb4 : Below w3.heap.size w3 ((w3.alloc (.cells #[.slice none 0 0, .slice none 0 0, .slice none 0 0, .slice none 0 0] 32)).setRow w3.heap.size D) := below_put (Nat.le_refl _) _ ((Below.refl _ _).alloc (Nat.le_refl _) _)
    have HV : Hid (SaW w J0 J1 o w3.heap.size b l y n s r oa oa2 rs ms (newX b.toNat n.toNat) D ((w3.alloc (.cells #[.slice none 0 0, .slice none 0 0, .slice none 0 0, .slice none 0 0] 32)).setRow w3.heap.size D)) :=
      ⟨⟨HK3.out.call hb4, HS3.out.below hb4⟩, ⟨HG3.out.after hb4, HZN.out.put _, (kp_size HK3.out).2⟩, ⟨HXS3.out.keep (hb4.mono (kp_size HK3.out).1), HXM3.out.keep (hb4.mono (kp_size HK3.out).1)⟩, HB3.out.trans (hb4.mono HB3.out.size), HZ2.out⟩
    generalize (w3.alloc (.cells #[.slice none 0 0, .slice none 0 0, .slice none 0 0, .slice none 0 0] 32)).setRow w3.heap.size D = w4 at HV ⊢
    obtain ⟨q, hq⟩ : ∃ q, w3.heap.size = q := ⟨_, rfl⟩
    rw [hq] at HV ⊢
    have HNB : Hid (n ≤ 300 ∧ 1 ≤ n ∧ 8 ≤ b ∧ b ≤ 64) := by
      obtain ⟨h1, _, _⟩ := HOK.out
      unfold PreG at h1
      show n ≤ 300 ∧ 1 ≤ n ∧ 8 ≤ b ∧ b ≤ 64
      omega
    clear hq hb4 HZN HSZ0 HSZ4 HK3 HS3 HG3 HB3 HXS3 HXM3 HZ2 HJ1
    have hnn := HNB.out
    obtain ⟨b, rfl⟩ : ∃ k : Nat, b = k := ⟨b.toNat, by omega⟩
    obtain ⟨n, rfl⟩ : ∃ k : Nat, n = k := ⟨n.toNat, by omega⟩
    have HNN : Hid (n ≤ 300 ∧ 1 ≤ n ∧ 8 ≤ b ∧ b ≤ 64) := by show n ≤ 300 ∧ 1 ≤ n ∧ 8 ≤ b ∧ b ≤ 64; omega
    rw [Int.toNat_natCast, Int.toNat_natCast] at HV
    clear hnn HNB
    go_wp2_with fail
    go_loopw [11] (fun iv wr => ∃ (i : Nat) (z : Sn) (D : Array Value), i ≤ L ∧ iv = .int .i64 i ∧ Hid (SaW w J0 J1 o q b l y n s r oa oa2 rs ms z D wr) ∧ Hid (CntB z ∧ LenE z (newX b n))) (fun iv _ => L + 1 - (intOf iv).toNat)
    case atStart => exact ⟨0, newX b n, D, Nat.zero_le _, rfl, HV.out, cnt_new _ _, rfl, rfl, rfl, rfl⟩
    case round =>
      clear HV
      obtain ⟨i, z, D, hi, rfl, HV, HCZ⟩ := hrel
      have hi100 : i ≤ 100 := by have := HLB.out; omega
      by_cases hlt : i < L
      · have hltz : (i : Int) < (L : Int) := by omega
        have hil : i < rs.length := by have := HLN.out; omega
        obtain ⟨g, o2, rfl, hg, hrow⟩ := HV.out.2.2.1.1 (by intro h0; rw [h0] at hil; exact absurd hil (Nat.not_lt_zero _))
        have r1 := hrow i hil
        obtain ⟨⟨rk, rp, rq⟩, hrc⟩ : ∃ r, rs[i] = r := ⟨_, rfl⟩
        rw [hrc] at r1
        have HGW : Hid (g < J0) := hg
        have HR1 : Hid (wr.rangeAt g (o2 + i * 3) (ra rk rp rq).toList) := r1
        have HRC : Hid (∀ w', Below wr.heap.size wr w' → w'.rangeAt g (o2 + i * 3) (ra rk rp rq).toList) := fun w' hb j v hj => by
          rw [World.cell?_of_block (w := wr) (hb.block g (Nat.lt_of_lt_of_le HGW.out (kp_size HV.out.1.1).1))]
          exact HR1.out j v hj
        obtain ⟨ec, hec⟩ : ∃ ec, appE z ⟨rk, rp, rq⟩ = ec := ⟨_, rfl⟩
        obtain ⟨z2, hz2⟩ : ∃ y, appX z ⟨rk, rp, rq⟩ = y := ⟨_, rfl⟩
        have hl4 := lenE_new HCZ.out.2
        have HAP : Hid (∀ w', Below wr.heap.size wr w' → Calls Try.prog 10 #[.agg D, .agg (ra rk rp rq)] w' fun e w2 => (∃ A2, e = .returned (.tuple #[.agg A2, .int .i64 ec]) ∧ SnG J0 J1 w2 A2 z2) ∧ Below w'.heap.size w' w2) := fun w' hb => by
          have h := rst_apply w' D z rk rp rq (Nat.le_trans (kp_size HV.out.1.1).2 hb.size) (HV.out.1.2.below hb) HCZ.out.1 (by have := HNN.out; omega)
          unfold AppT at h
          rw [hec, hz2] at h
          exact h
        have HKA : Hid (∀ w', Kp J0 J1 w' o z → Calls Try.prog 11 #[.pointer (some ⟨o, 0, none⟩), .agg (ra rk rp rq)] w' fun e w2 => e = .returned (.int .i64 ec) ∧ Kp J0 J1 w2 o z2 ∧ Out J0 J1 w' w2) := fun w' hk => by
          have h := ap_is rk rp rq hk HCZ.out.1
          rw [hec, hz2] at h
          exact h
        have HCZ2 : Hid (CntB z2 ∧ LenE z2 (newX b n)) := by
          rw [← hz2]
          unfold appX
          split
          · obtain ⟨e1, e2, e3, e4⟩ := LenE.chg z ⟨rk, rp, rq⟩
            obtain ⟨f1, f2, f3, f4⟩ := HCZ.out.2
            exact ⟨HCZ.out.1.chg _, e1.trans f1, e2.trans f2, e3.trans f3, e4.trans f4⟩
          · exact HCZ.out
        have HAB : Hid (∀ w', Below wr.heap.size wr w' → Blk w' q D 32) := fun w' hb => HV.out.2.1.2.1.after hb
        have HSA : Hid ((Try.prog.info? 32).map (·.size) = some D.size) := snAt_sizeT HV.out.1.2
        have HIN : Hid ((i : Int) < (L : Int) ∧ (0 : Int) ≤ (i : Int)) := ⟨hltz, by omega⟩
        have i0 : (0 : Int) ≤ (i : Int) := by omega
        clear r1 hrow hrc hg hil hec hz2 hl4
        go_upto_region 12 with fail
        rename_i K0 hK0
        generalize hA : (⟨_, _⟩ : Act) = A
        have HA := Lib.hid hA
        have HSZ : Hid (A.tmps.size = 214) := by rw [← hA]; rfl
        have HX1 : Hid (A.tmps.getD 1 undef = .slice (some ⟨g, o2, none⟩) L cap) := by rw [← hA]; rfl
        have HX9 : Hid (A.tmps.getD 9 undef = .pointer (some ⟨q, 0, none⟩)) := by rw [← hA]; rfl
        have HX11 : Hid (A.tmps.getD 11 undef = .int .i64 (i : Int)) := by rw [← hA]; rfl
        clear hA
        refine wp_region_list3 (SV2S (vsAP g o2 L cap i D rk rp rq ec) fAP) (NearL A [12, 13, 67, 68, 69, 70, 71, 72, 73, 74, 75]) (Below wr.heap.size wr) (TS J0 J1 wr z2) (RV (vsAP g o2 L cap i D rk rp rq ec) (SpAP J0 J1 wr z2 ec)) rfl (by kernel_rfl) (RV.ext2S (f := fAP) (SpAP.ext wr z2 ec)) ?_ ((Below.refl _ _).drew) (NearL.refl A _) ?_ ?_
        · exact ⟨fun _ _ h => h.put (by decide), fun _ _ h => h.put (by decide), fun _ _ h => h.put (by decide), fun _ _ h => h.put (by decide), fun _ _ h => h.put (by decide), fun _ _ h => h.put (by decide), fun _ _ h => h.put (by decide), fun _ _ h => h.put (by decide), fun _ _ h => h.put (by decide), fun _ _ h => h.put (by decide), fun a v h => h, fun _ _ h => h.put (by decide), trivial⟩
        · refine ⟨?_, ?_, ?_, ?_, ?_, ?_, ?_, ?_, ?_, ?_, ?_, ?_, trivial⟩
          all_goals
            intro a w' hC hB hR
            have HC := Lib.hid hC
            clear hC
            clear hK0
          · have e9 : a.tmps.getD 9 undef = .pointer (some ⟨q, 0, none⟩) := (hB.slot 9 (by decide)).trans HX9.out
            clear hR
            refine if_yes rfl ?_
            exact wp_load_row 32 (.tmp 9) rfl q e9 32 D (0, 0) _ (HAB.out _ HC.out) Try.underlying32 rfl HSA.out ⟨.agg D, rfl, HC.out, TS.refl _ _ _, put_at (by rw [hB.size, HSZ.out]; decide)⟩
          · have e1 : a.tmps.getD 1 undef = .slice (some ⟨g, o2, none⟩) L cap := (hB.slot 1 (by decide)).trans HX1.out
            clear hR
            refine if_yes rfl ?_
            unfold Oper.wp
            go_simp
            exact ⟨.slice (some ⟨g, o2, none⟩) L cap, rfl, HC.out, TS.refl _ _ _, put_at (by rw [hB.size, HSZ.out]; decide)⟩
          · have e11 : a.tmps.getD 11 undef = .int .i64 (i : Int) := (hB.slot 11 (by decide)).trans HX11.out
            clear hR
            refine if_yes rfl ?_
            unfold Oper.wp
            go_simp
            exact ⟨.int .i64 (i : Int), rfl, HC.out, TS.refl _ _ _, put_at (by rw [hB.size, HSZ.out]; decide)⟩
          · have h69 : a.tmps.getD 69 undef = .slice (some ⟨g, o2, none⟩) L cap := hR ⟨1, .data⟩ (by simp) rfl
            have h70 : a.tmps.getD 70 undef = .int .i64 (i : Int) := hR ⟨2, .data⟩ (by simp) rfl
            have hin := HIN.out
            clear hR
            refine if_yes rfl ?_
            unfold Oper.wp
            go_simp
            exact ⟨.pointer (some ⟨g, o2 + i * 3, none⟩), rfl, HC.out, TS.refl _ _ _, put_at (by rw [hB.size, HSZ.out]; decide)⟩
          · have h71 : a.tmps.getD 71 undef = .pointer (some ⟨g, o2 + i * 3, none⟩) := hR ⟨3, .data⟩ (by simp) rfl
            clear hR
            refine if_yes rfl ?_
            exact wp_load_mid 37 (.tmp 71) rfl g (o2 + i * 3) h71 (ra rk rp rq).toList _ (HRC.out _ HC.out) Try.underlying37 rfl size_rec ⟨.agg (ra rk rp rq), rfl, HC.out, TS.refl _ _ _, put_at (by rw [hB.size, HSZ.out]; decide)⟩
          · have h68 : a.tmps.getD 68 undef = .agg D := hR ⟨0, .data⟩ (by simp) rfl
            have h72 : a.tmps.getD 72 undef = .agg (ra rk rp rq) := hR ⟨4, .data⟩ (by simp) rfl
            clear hR
            refine if_yes rfl ?_
            unfold Oper.wp
            go_simp
            refine (HAP.out w' HC.out).mono ?_
            rintro e w2 ⟨⟨A2, rfl, h2⟩, hb2⟩
            exact ⟨.tuple #[.agg A2, .int .i64 ec], rfl, HC.out.trans (hb2.mono HC.out.size), TS.call HC.out hb2, ⟨A2, put_at (by rw [hB.size, HSZ.out]; decide), h2⟩⟩
          · obtain ⟨A2, h73, hs2⟩ := hR ⟨5, .data⟩ (by simp) rfl
            clear hR
            refine if_yes rfl ?_
            unfold Oper.wp
            go_simp
            exact ⟨.tuple #[.agg A2, .int .i64 ec], rfl, HC.out, TS.refl _ _ _, ⟨A2, put_at (by rw [hB.size, HSZ.out]; decide), hs2⟩⟩
          · obtain ⟨A2, h67, hs2⟩ := hR ⟨6, .data⟩ (by simp) rfl
            clear hR
            refine if_yes rfl ?_
            unfold Oper.wp
            go_simp
            exact ⟨.agg A2, rfl, HC.out, TS.refl _ _ _, ⟨A2, put_at (by rw [hB.size, HSZ.out]; decide), hs2⟩⟩
          · obtain ⟨A2, h67, hs2⟩ := hR ⟨6, .data⟩ (by simp) rfl
            clear hR
            refine if_yes rfl ?_
            unfold Oper.wp
            go_simp
            exact ⟨.int .i64 ec, rfl, HC.out, TS.refl _ _ _, put_at (by rw [hB.size, HSZ.out]; decide)⟩
          · clear hR
            refine if_yes rfl ?_
            unfold Oper.wp
            go_simp
            exact ⟨.pointer (some ⟨w'.heap.size, 0, none⟩), rfl, HC.out.alloc HC.out.size _, TS.call HC.out ((Below.refl _ _).alloc (Nat.le_refl _) _), ⟨w'.heap.size, nil4, put_at (by rw [hB.size, HSZ.out]; decide), HC.out.size, Blk.new w' nil4 32, rfl, allSl_nil4⟩⟩
          · obtain ⟨A2, h74, hs2⟩ := hR ⟨7, .data⟩ (by simp) rfl
            obtain ⟨q2, cs, h12, hq, hqk, hcs, hall⟩ := hR ⟨9, .data⟩ (by simp) rfl
            clear hR
            refine if_yes rfl ?_
            exact wp_store_row 32 (.tmp 12) (.tmp 74) rfl q2 A2 h12 h74 32 cs hqk (snAt_sizeT hs2) (hcs.trans (snAt_four4 hs2)) (snAt_oneT hs2) ⟨undef, rfl, below_put hq _ HC.out, TS.store HC.out hq hqk hall hs2, ⟨q2, h12, StP.mk HC.out hq hqk hall hs2⟩⟩
          · have h75 : a.tmps.getD 75 undef = .int .i64 ec := hR ⟨8, .data⟩ (by simp) rfl
            clear hR
            refine if_yes rfl ?_
            unfold Oper.wp
            go_simp
            exact ⟨.int .i64 ec, rfl, HC.out, TS.refl _ _ _, put_at (by rw [hB.size, HSZ.out]; decide)⟩
        · intro aa w5 hC hB hR
          obtain ⟨q2, h12, hq2⟩ := hR 10 (by decide)
          have h13 : aa.tmps.getD 13 undef = .int .i64 ec := hR 11 (by decide)
          have HC5 := Lib.hid hC
          have HQ2 := Lib.hid hq2
          clear hR hC hq2
          obtain ⟨u, hu⟩ : ∃ u : Nat → Value, ∀ j, aa.tmps.getD j undef = u j := ⟨_, fun _ => rfl⟩
          have hp := hB.puts
          simp only [hu] at h12 h13
          simp only [List.foldl_cons, List.foldl_nil, hu, h12, h13] at hp
          clear hu hB h12 h13
          subst hp
          rw [← HA.out]
          clear HA HSZ HX1 HX9 HX11
          change (_ : Exit → Act → World → Prop) _ (⟨#[_, _, _, _, _, _, _, _, _, _, _, _, _, _, _, _, _, _, _, _, _, _, _, _, _, _, _, _, _, _, _, _, _, _, _, _, _, _, _, _, _, _, _, _, _, _, _, _, _, _, _, _, _, _, _, _, _, _, _, _, _, _, _, _, _, _, _, _, _, _, _, _, _, _, _, _, _, _, _, _, _, _, _, _, _, _, _, _, _, _, _, _, _, _, _, _, _, _, _, _, _, _, _, _, _, _, _, _, _, _, _, _, _, _, _, _, _, _, _, _, _, _, _, _, _, _, _, _, _, _, _, _, _, _, _, _, _, _, _, _, _, _, _, _, _, _, _, _, _, _, _, _, _, _, _, _, _, _, _, _, _, _, _, _, _, _, _, _, _, _, _, _, _, _, _, _, _, _, _, _, _, _, _, _, _, _, _, _, _, _, _, _, _, _, _, _, _, _, _, _, _, _, _, _, _, _, _, _, _, _, _, _, _, _], _⟩ : Act) _
          obtain ⟨_, _, A2, hqk, hs2⟩ := HQ2.out
          have HQK := Lib.hid hqk
          have HS2 := Lib.hid hs2
          have HV5 := Lib.hid (HV.out.call HC5.out)
          have HSZ2 : Hid ((Try.prog.info? 32).map (·.size) = some A2.size) := snAt_sizeT HS2.out
          have HSZ4 : Hid (D.size = A2.size) := (snAt_four4 HV5.out.1.2).symm.trans (snAt_four4 HS2.out)
          clear hqk hs2 HQ2 HAP HAB HV HSA
          go_upto_region 14 with (first
            | (refine wpList_load_row rfl 32 (.tmp 12) rfl q2 rfl 32 A2 (0, 0) _ HQK.out Try.underlying32 rfl HSZ2.out ?_)
            | (refine wpList_store_row rfl 32 (.tmp 9) (.tmp 76) rfl q A2 rfl rfl 32 D HV5.out.2.1.2.1 HSZ2.out HSZ4.out (snAt_oneT HS2.out) ?_))
          have HK6 : Hid (Kp J0 J1 (w5.setRow q A2) o z) := HV5.out.1.1.put HV5.out.2.1.2.2 _
          have HW6 : Hid (Below J0 w5 (w5.setRow q A2)) := below_put (by have := HV5.out.2.1.2.2; have := HV5.out.2.2.2.2; omega) _ (Below.refl _ _)
          have HR6 : Hid ((w5.setRow q A2).rangeAt g (o2 + i * 3) (ra rk rp rq).toList) := fun j v hj => by
            rw [World.cell?_of_block (w := w5) (HW6.out.block g HGW.out)]
            exact HRC.out _ HC5.out j v hj
          have HTN : Hid (∀ w', Out J0 J1 (w5.setRow q A2) w' → Kp J0 J1 w' o z2 → SaW w J0 J1 o q b l y n s r (some ⟨g, o2, none⟩) oa2 rs ms z2 A2 w') := fun w' ho hk => HV5.out.turn HS2.out ho hk
          generalize w5.setRow q A2 = w6 at HK6 HW6 HR6 HTN ⊢
          clear HV5 HQK HSZ2 HSZ4 HRC HC5 HW6 HR1
          go_wp2_with (refine wpList_load_mid rfl 37 (.tmp 80) rfl g (o2 + i * 3) rfl (ra rk rp rq).toList _ HR6.out Try.underlying37 rfl size_rec ?_)
          refine (HKA.out _ HK6.out).mono ?_
          rintro e w7 ⟨rfl, hk7, ho7⟩
          have HV7 := Lib.hid (HTN.out _ ho7 hk7)
          have c1 : w7.cell? ⟨g, o2 + i * 3 + 1, none⟩ = some (.int .i64 rp) := by
            rw [World.cell?_of_block (w := w6) (ho7.1.block g HGW.out)]
            exact HR6.out 1 _ rfl
          clear hk7 ho7 HTN HK6 HKA HS2
          have HC1 := Lib.hid c1
          go_wp2_with fail
          refine (st_wear J0 J1 o z2 rp _ HV7.out.1.1).mono ?_
          rintro e w8 ⟨rfl, hb8⟩
          have HV8 := Lib.hid (HV7.out.call hb8)
          have d1 : w8.cell? ⟨g, o2 + i * 3 + 1, none⟩ = some (.int .i64 rp) := by
            rw [World.cell?_of_block (w := w7) (hb8.block g (Nat.lt_of_lt_of_le HGW.out (kp_size HV7.out.1.1).1))]
            exact HC1.out
          have dg : w8.cell? ⟨w.heap.size, 0, none⟩ = some (.int .i64 (b : Int)) := HV8.out.2.1.1.cell 0
          have hl4 := lenE_new HCZ2.out.2
          have HBN : Hid (∀ m, Below w8.heap.size w8 (w8.drewN m)) := fun m => ⟨rfl, rfl, rfl, Nat.le_refl _, fun _ _ => rfl⟩
          have HREL : Hid (∀ m, SaW w J0 J1 o q b l y n s r (some ⟨g, o2, none⟩) oa2 rs ms z2 A2 (w8.drewN m)) := fun m => HV8.out.call (HBN.out m)
          clear hb8 HC1 c1 HR6 HV7 HCZ HBN HGW
          by_cases hin : 0 ≤ rp ∧ rp < (b : Int)
          · obtain ⟨p, rfl⟩ : ∃ p : Nat, rp = p := ⟨rp.toNat, by omega⟩
            have hs1 : atI z2.s (p : Int) = z2.s.getD p 0 := by unfold atI; rw [hl4.2.2.1, if_pos hin, Int.toNat_natCast]
            have ht1 : atI z2.t (p : Int) = z2.t.getD p 0 := by unfold atI; rw [hl4.2.2.2, if_pos hin, Int.toNat_natCast]
            rw [hs1, ht1]
            obtain ⟨vf, vc, vs, vt, hA2, i1, i2, i3, i4⟩ := HV8.out.1.2
            obtain ⟨gs, os, cs, rfl, ks⟩ := ivg_some i3 hl4.2.2.1 (by omega)
            obtain ⟨gt, ot, ct, rfl, kt⟩ := ivg_some i4 hl4.2.2.2 (by omega)
            have hq8 : Blk w8 q #[vf, vc, .slice (some ⟨gs, os, none⟩) b cs, .slice (some ⟨gt, ot, none⟩) b ct] 32 := by rw [← hA2]; exact HV8.out.2.1.2.1
            have x2 : w8.cell? ⟨q, 2, none⟩ = some (.slice (some ⟨gs, os, none⟩) b cs) := hq8.cell 2
            have x3 : w8.cell? ⟨q, 3, none⟩ = some (.slice (some ⟨gt, ot, none⟩) b ct) := hq8.cell 3
            have y2 := ks p (by omega)
            have y3 := kt p (by omega)
            obtain ⟨us, hus⟩ : ∃ u, z2.s.getD p 0 = u := ⟨_, rfl⟩
            obtain ⟨ut, hut⟩ : ∃ u, z2.t.getD p 0 = u := ⟨_, rfl⟩
            rw [hus] at y2 ⊢
            rw [hut] at y3 ⊢
            have p0 : (0 : Int) ≤ (p : Int) := hin.1
            have p1 : (p : Int) < (b : Int) := hin.2
            clear hs1 ht1 hus hut ks kt i1 i2 i3 i4 hq8 hA2 hl4 hin HV8
            go_wp2_with fail
            go_quiet (fail)
            go_wp2_with fail
            go_quiet (fail)
            go_wp2_with fail
            go_quiet (fail)
            go_wp2_with fail
            go_roundw
            case rel => exact ⟨i + 1, z2, A2, hlt, by go_num, HREL.out _, HCZ2⟩
            case measure => simp [intOf]; omega
          · have hs1 : atI z2.s rp = 0 := by unfold atI; rw [hl4.2.2.1, if_neg hin]
            have ht1 : atI z2.t rp = 0 := by unfold atI; rw [hl4.2.2.2, if_neg hin]
            rw [hs1, ht1]
            clear hs1 ht1 hl4 HV8
            by_cases hp0 : 0 ≤ rp
            · have hp1 : ¬ rp < (b : Int) := by omega
              clear hin
              go_wp2_with fail
              go_quiet (fail)
              go_wp2_with fail
              go_roundw
              case rel => exact ⟨i + 1, z2, A2, hlt, by go_num, HREL.out _, HCZ2⟩
              case measure => simp [intOf]; omega
            · have hpb : decide (0 ≤ rp) = false := decide_eq_false hp0
              clear hin
              go_wp2_with fail
              go_quiet (fail)
              go_wp2_with fail
              go_roundw
              case rel => exact ⟨i + 1, z2, A2, hlt, by go_num, HREL.out _, HCZ2⟩
              case measure => simp [intOf]; omega
      · obtain rfl : i = L := by omega
        have hltz : ¬ (i : Int) < (i : Int) := by omega
        have hl4 := lenE_new HCZ.out.2
        clear hlt hi
        go_wp2_with fail
        refine (kp_stateG HV.out.1.1 hl4.1 hl4.2.1 (by have := HNN.out; omega)).mono ?_
        rintro e w2 ⟨⟨g0, g1, g2, g3, k0, k1, k2, k3, rfl, hr2⟩, hb2⟩
        have HB2 := Lib.hid hb2
        have HR2 := Lib.hid hr2
        clear hb2 hr2
        have HZN : Hid (Blk (w2.alloc (.cells #[.slice none 0 0, .slice none 0 0, .slice none 0 0, .slice none 0 0] 32)) w2.heap.size nil4 32) := Blk.new _ _ _
        go_upto_region 24 with (refine wpList_store_row rfl 32 (.tmp 18) (.tmp 138) rfl w2.heap.size (kpV g0 g1 g2 g3 k0 k1 k2 k3 n b) rfl rfl 32 nil4 HZN.out size_state rfl (kpV_one _ _ _ _ _ _ _ _ _ _) ?_)
        have hb3 : Below w2.heap.size w2 ((w2.alloc (.cells #[.slice none 0 0, .slice none 0 0, .slice none 0 0, .slice none 0 0] 32)).setRow w2.heap.size (kpV g0 g1 g2 g3 k0 k1 k2 k3 n b)) := below_put (Nat.le_refl _) _ ((Below.refl _ _).alloc (Nat.le_refl _) _)
        have HB3 := Lib.hid (HB2.out.trans (hb3.mono HB2.out.size))
        have HR3 := Lib.hid (HR2.out.call hb3)
        have HQ3 : Hid (Blk ((w2.alloc (.cells #[.slice none 0 0, .slice none 0 0, .slice none 0 0, .slice none 0 0] 32)).setRow w2.heap.size (kpV g0 g1 g2 g3 k0 k1 k2 k3 n b)) w2.heap.size (kpV g0 g1 g2 g3 k0 k1 k2 k3 n b) 32) := HZN.out.put _
        generalize (w2.alloc (.cells #[.slice none 0 0, .slice none 0 0, .slice none 0 0, .slice none 0 0] 32)).setRow w2.heap.size (kpV g0 g1 g2 g3 k0 k1 k2 k3 n b) = w3 at HB3 HR3 HQ3 ⊢
        obtain ⟨q8, hq8⟩ : ∃ q, w2.heap.size = q := ⟨_, rfl⟩
        rw [hq8] at HQ3 ⊢
        clear hb3 HZN HR2 HB2 hq8
        have c0 : w3.cell? ⟨q8, 0, none⟩ = some (.slice (some ⟨g0, 0, none⟩) n k0) := HQ3.out.cell 0
        go_wp2_with fail
        refine (book_spoil g0 n k0 _ _ HR3.out.2.1 (by have := HNN.out; omega)).mono ?_
        rintro e w4 ⟨rfl, ho4, hk4⟩
        have HB4 := Lib.hid (HB3.out.trans (ho4.1.mono HR3.out.1.1))
        have HQ4 : Hid (Blk w4 q8 (kpV g0 g1 g2 g3 k0 k1 k2 k3 n b) 32) := by
          obtain ⟨_, _, cs, hbk, _⟩ := HR3.out.2.1
          have hne := blk_neT hbk HQ3.out (by decide)
          exact HQ3.out.out ho4 (by omega)
        obtain ⟨l2, hl2⟩ := hk4 _ _ _ _ HR3.out.2.2.2.1
        have HL2 := Lib.hid hl2
        have c2 : w4.cell? ⟨q8, 2, none⟩ = some (.slice (some ⟨g2, 0, none⟩) b k2) := HQ4.out.cell 2
        have HG2 : Hid (wr.heap.size ≤ g2) := HR3.out.1.2.2.1
        clear ho4 hk4 hl2 c0 HB3 HQ3 HR3
        go_wp2_with fail
        refine (book_spoil g2 b k2 _ _ HL2.out (by have := HNN.out; omega)).mono ?_
        rintro e w5 ⟨rfl, ho5, _⟩
        have HB5 := Lib.hid (HB4.out.trans (ho5.1.mono HG2.out))
        have HV5 := Lib.hid (HV.out.call HB5.out)
        clear ho5 c2 HB4 HQ4 HL2 HG2 HV HB5
        have HSA0 : Hid ((Try.prog.info? 32).map (·.size) = some D.size) := snAt_sizeT HV5.out.1.2
        go_wp2_with (refine wpList_load_row rfl 32 (.tmp 9) rfl q rfl 32 D (0, 0) _ HV5.out.2.1.2.1 Try.underlying32 rfl HSA0.out ?_)
        have hall := rst_all w5 D z oa2 cap2 ms (kp_size HV5.out.1.1).2 HV5.out.1.2 HCZ.out.1 (by have := HNN.out; omega) (by have := HLB.out; have := HMN.out; omega) (HV5.out.2.2.1.2.at (kp_size HV5.out.1.1).1)
        rw [HMN.out] at hall
        refine hall.mono ?_
        rintro e w6 ⟨⟨A2, rfl, hs6⟩, hb6⟩
        obtain ⟨ec, hec⟩ : ∃ ec, allE z ms = ec := ⟨_, rfl⟩
        obtain ⟨zz, hzz⟩ : ∃ x, allX z ms = x := ⟨_, rfl⟩
        have HLZ : Hid (zz.f.length = n ∧ zz.c.length = b ∧ zz.s.length = b ∧ zz.t.length = b) := by
          obtain ⟨e1, e2, e3, e4⟩ := allX_len ms z
          rw [hzz] at e1 e2 e3 e4
          obtain ⟨f1, f2, f3, f4⟩ := hl4
          exact ⟨e1.trans f1, e2.trans f2, e3.trans f3, e4.trans f4⟩
        have HAL : Hid (∀ w', Kp J0 J1 w' o z → XsB J0 w' oa2 ms → Calls Try.prog 16 #[.pointer (some ⟨o, 0, none⟩), .slice oa2 M cap2] w' fun e w2 => e = .returned (.int .i64 ec) ∧ Kp J0 J1 w2 o zz ∧ Out J0 J1 w' w2) := fun w' hk hx => by
          have h := al_is (cap := cap2) hk HCZ.out.1 HMN.out (by have := HLB.out; omega) hx
          rw [hec, hzz] at h
          exact h
        rw [hzz] at hs6
        rw [hec]
        have HV6 := Lib.hid (HV5.out.call hb6)
        have HS6 := Lib.hid hs6
        have HSA : Hid ((Try.prog.info? 32).map (·.size) = some A2.size) := snAt_sizeT HS6.out
        have HS4 : Hid (nil4.size = A2.size) := snAt_four4 HS6.out
        clear hall hs6 hb6 hec hzz hl4 HV5 HSA0
        have HZN : Hid (Blk (w6.alloc (.cells #[.slice none 0 0, .slice none 0 0, .slice none 0 0, .slice none 0 0] 32)) w6.heap.size nil4 32) := Blk.new _ _ _
        go_upto_region 27 with (refine wpList_store_row rfl 32 (.tmp 19) (.tmp 149) rfl w6.heap.size A2 rfl rfl 32 nil4 HZN.out HSA.out HS4.out (snAt_oneT HS6.out) ?_)
        have hb7 : Below w6.heap.size w6 ((w6.alloc (.cells #[.slice none 0 0, .slice none 0 0, .slice none 0 0, .slice none 0 0] 32)).setRow w6.heap.size A2) := below_put (Nat.le_refl _) _ ((Below.refl _ _).alloc (Nat.le_refl _) _)
        have HK7 := Lib.hid (HV6.out.1.1.call hb7)
        have HSB : Hid (SbW w J0 J1 w6.heap.size b l y n s r oa2 ms zz A2 ((w6.alloc (.cells #[.slice none 0 0, .slice none 0 0, .slice none 0 0, .slice none 0 0] 32)).setRow w6.heap.size A2)) := by
          have h1 := HV6.out.2.2.2.2
          have h2 := (kp_size HV6.out.1.1).2
          have h3 := hb7.size
          exact ⟨HS6.out.below hb7, HZN.out.put _, HV6.out.2.2.1.2.keep (hb7.mono (kp_size HV6.out.1.1).1), HV6.out.2.1.1.after hb7, HV6.out.2.2.2.1.trans (hb7.mono HV6.out.2.2.2.1.size), by omega⟩
        generalize (w6.alloc (.cells #[.slice none 0 0, .slice none 0 0, .slice none 0 0, .slice none 0 0] 32)).setRow w6.heap.size A2 = w7 at HK7 HSB ⊢
        obtain ⟨t9, ht9⟩ : ∃ q, w6.heap.size = q := ⟨_, rfl⟩
        rw [ht9] at HSB ⊢
        clear ht9 hb7 HZN HS4 HV6 HS6
        rename_i K0 hK0
        generalize hA : (⟨_, _⟩ : Act) = A
        have HA := Lib.hid hA
        have HSZ : Hid (A.tmps.size = 214) := by rw [← hA]; rfl
        have HX2 : Hid (A.tmps.getD 2 undef = .slice oa2 M cap2) := by rw [← hA]; rfl
        have HX7 : Hid (A.tmps.getD 7 undef = .pointer (some ⟨o, 0, none⟩)) := by rw [← hA]; rfl
        have HX19 : Hid (A.tmps.getD 19 undef = .pointer (some ⟨t9, 0, none⟩)) := by rw [← hA]; rfl
        have HX20 : Hid (A.tmps.getD 20 undef = .int .i64 ec) := by rw [← hA]; rfl
        clear hA
        refine wp_region_list3Z 2 (fun i => i == 2) (SV2S (vsSA o M cap2 oa2 A2 ec) fSA) (NearL A [151, 152, 153, 154, 155, 156, 157, 158, 159, 160, 161, 162]) (fun bz a w' => (bz = false → Kp J0 J1 w' o z) ∧ SbW w J0 J1 t9 b l y n s r oa2 ms zz A2 w') (TA J0 J1 o n b zz) (RV (vsSA o M cap2 oa2 A2 ec) (SpSA J0 J1 o n b zz ec)) rfl (by decide) (by kernel_rfl) (by kernel_rfl) (RV.ext2S (f := fSA) (SpSA.ext J0 J1 o n b zz ec)) ?_ (⟨fun _ => HK7.out.call (Below.refl _ _).drew, HSB.out.call (Below.refl _ _).drew⟩) (NearL.refl A _) ?_ ?_
        · exact ⟨fun _ _ h => h.put (by decide), fun _ _ h => h.put (by decide), fun _ _ h => h.put (by decide), fun _ _ h => h.put (by decide), fun _ _ h => h.put (by decide), fun _ _ h => h.put (by decide), fun _ _ h => h.put (by decide), fun _ _ h => h.put (by decide), fun _ _ h => h.put (by decide), fun _ _ h => h.put (by decide), fun _ _ h => h.put (by decide), fun _ _ h => h.put (by decide), trivial⟩
        · refine ⟨?_, ?_, ?_, ?_, ?_, ?_, ?_, ?_, ?_, ?_, ?_, ?_, trivial⟩
          all_goals
            intro bz a w' hz hC hB hR
            have HC := Lib.hid hC
            clear hC
            clear hK0
          · have e7 : a.tmps.getD 7 undef = .pointer (some ⟨o, 0, none⟩) := (hB.slot 7 (by decide)).trans HX7.out
            clear hR
            refine if_yes rfl ?_
            unfold Oper.wp
            go_simp
            exact ⟨.pointer (some ⟨o, 0, none⟩), rfl, ⟨fun h => HC.out.1 (by simpa using h), HC.out.2⟩, TA.refl _ _ _ _ _ _ _, put_at (by rw [hB.size, HSZ.out]; decide)⟩
          · have e2 : a.tmps.getD 2 undef = .slice oa2 M cap2 := (hB.slot 2 (by decide)).trans HX2.out
            clear hR
            refine if_yes rfl ?_
            unfold Oper.wp
            go_simp
            exact ⟨.slice oa2 M cap2, rfl, ⟨fun h => HC.out.1 (by simpa using h), HC.out.2⟩, TA.refl _ _ _ _ _ _ _, put_at (by rw [hB.size, HSZ.out]; decide)⟩
          · have h151 : a.tmps.getD 151 undef = .pointer (some ⟨o, 0, none⟩) := hR ⟨0, .data⟩ (by simp) rfl
            have h152 : a.tmps.getD 152 undef = .slice oa2 M cap2 := hR ⟨1, .data⟩ (by simp) rfl
            clear hR
            refine if_yes rfl ?_
            unfold Oper.wp
            go_simp
            refine (HAL.out _ (HC.out.1 (hz rfl)) HC.out.2.2.2.1).mono ?_
            rintro e w2 ⟨rfl, hk2, ho2⟩
            exact ⟨.int .i64 ec, rfl, ⟨(fun h => by cases h), HC.out.2.out ho2⟩, TA.outs ho2 hk2, ⟨put_at (by rw [hB.size, HSZ.out]; decide), hk2⟩⟩
          · have e20 : a.tmps.getD 20 undef = .int .i64 ec := (hB.slot 20 (by decide)).trans HX20.out
            clear hR
            refine if_yes rfl ?_
            unfold Oper.wp
            go_simp
            exact ⟨.int .i64 ec, rfl, ⟨fun h => HC.out.1 (by simpa using h), HC.out.2⟩, TA.refl _ _ _ _ _ _ _, put_at (by rw [hB.size, HSZ.out]; decide)⟩
          · have h154 : a.tmps.getD 154 undef = .int .i64 ec := hR ⟨3, .data⟩ (by simp) rfl
            obtain ⟨h153, hk⟩ := hR ⟨2, .data⟩ (by simp) rfl
            clear hR
            refine if_yes rfl ?_
            unfold Oper.wp
            go_simp
            exact ⟨.bool false, rfl, ⟨fun h => HC.out.1 (by simpa using h), HC.out.2⟩, TA.refl _ _ _ _ _ _ _, ⟨put_at (by rw [hB.size, HSZ.out]; decide), hk⟩⟩
          · obtain ⟨h155, hk⟩ := hR ⟨4, .data⟩ (by simp) rfl
            clear hR
            refine if_yes rfl ?_
            unfold Oper.wp
            go_simp
            exact ⟨.bool false, rfl, ⟨fun h => HC.out.1 (by simpa using h), HC.out.2⟩, TA.refl _ _ _ _ _ _ _, ⟨put_at (by rw [hB.size, HSZ.out]; decide), hk⟩⟩
          · have g156 : a.tmps.getD 156 undef = .bool false := (hR ⟨5, .guard⟩ (by simp) rfl).1
            have e7 : a.tmps.getD 7 undef = .pointer (some ⟨o, 0, none⟩) := (hB.slot 7 (by decide)).trans HX7.out
            clear hR
            refine if_yes (wanted_at rfl (by kernel_rfl) (by rw [hB.size, HSZ.out]; decide) g156 rfl) ?_
            unfold Oper.wp
            go_simp
            exact ⟨.pointer (some ⟨o, 0, none⟩), rfl, ⟨fun h => HC.out.1 (by simpa using h), HC.out.2⟩, TA.refl _ _ _ _ _ _ _, put_at (by rw [hB.size, HSZ.out]; decide)⟩
          · have g156 : a.tmps.getD 156 undef = .bool false := (hR ⟨5, .guard⟩ (by simp) rfl).1
            have h157 : a.tmps.getD 157 undef = .pointer (some ⟨o, 0, none⟩) := hR ⟨6, .data⟩ (by simp) rfl
            obtain ⟨_, hk⟩ := hR ⟨5, .guard⟩ (by simp) rfl
            clear hR
            refine if_yes (wanted_at rfl (by kernel_rfl) (by rw [hB.size, HSZ.out]; decide) g156 rfl) ?_
            unfold Oper.wp
            go_simp
            refine (kp_stateG hk HLZ.out.1 HLZ.out.2.1 (by have := HNN.out; omega)).mono ?_
            rintro e w2 ⟨⟨g0, g1, g2, g3, k0, k1, k2, k3, rfl, hr⟩, hb⟩
            exact ⟨.agg (kpV g0 g1 g2 g3 k0 k1 k2 k3 n b), rfl, ⟨fun h => (HC.out.1 (by simpa using h)).call hb, HC.out.2.call hb⟩, TA.call hb, ⟨g0, g1, g2, g3, k0, k1, k2, k3, put_at (by rw [hB.size, HSZ.out]; decide), hr.mono (kp_size hk).2⟩⟩
          · have g156 : a.tmps.getD 156 undef = .bool false := (hR ⟨5, .guard⟩ (by simp) rfl).1
            have e19 : a.tmps.getD 19 undef = .pointer (some ⟨t9, 0, none⟩) := (hB.slot 19 (by decide)).trans HX19.out
            clear hR
            refine if_yes (wanted_at rfl (by kernel_rfl) (by rw [hB.size, HSZ.out]; decide) g156 rfl) ?_
            exact wp_load_row 32 (.tmp 19) rfl t9 e19 32 A2 (0, 0) _ HC.out.2.2.1 Try.underlying32 rfl HSA.out ⟨.agg A2, rfl, ⟨fun h => HC.out.1 (by simpa using h), HC.out.2⟩, TA.refl _ _ _ _ _ _ _, put_at (by rw [hB.size, HSZ.out]; decide)⟩
          · have g156 : a.tmps.getD 156 undef = .bool false := (hR ⟨5, .guard⟩ (by simp) rfl).1
            have h159 : a.tmps.getD 159 undef = .agg A2 := hR ⟨8, .data⟩ (by simp) rfl
            obtain ⟨g0, g1, g2, g3, k0, k1, k2, k3, h158, hr⟩ := hR ⟨7, .data⟩ (by simp) rfl
            clear hR
            refine if_yes (wanted_at rfl (by kernel_rfl) (by rw [hB.size, HSZ.out]; decide) g156 rfl) ?_
            unfold Oper.wp
            go_simp
            refine (book_state _ _ _ _ _ hr.sn HC.out.2.1.sn).mono ?_
            rintro e w2 ⟨rfl, hb⟩
            rw [show decide (zz = zz) = true from decide_eq_true rfl]
            exact ⟨.bool true, rfl, ⟨fun h => (HC.out.1 (by simpa using h)).call hb, HC.out.2.call hb⟩, TA.call hb, put_at (by rw [hB.size, HSZ.out]; decide)⟩
          · have g156 : a.tmps.getD 156 undef = .bool false := (hR ⟨5, .guard⟩ (by simp) rfl).1
            have h160 : a.tmps.getD 160 undef = .bool true := hR ⟨9, .data⟩ (by simp) rfl
            clear hR
            refine if_yes (wanted_at rfl (by kernel_rfl) (by rw [hB.size, HSZ.out]; decide) g156 rfl) ?_
            unfold Oper.wp
            go_simp
            exact ⟨.bool false, rfl, ⟨fun h => HC.out.1 (by simpa using h), HC.out.2⟩, TA.refl _ _ _ _ _ _ _, put_at (by rw [hB.size, HSZ.out]; decide)⟩
          · have h161 : a.tmps.getD 161 undef = .bool false := hR ⟨10, .data⟩ (by simp) rfl
            obtain ⟨h156, _⟩ := hR ⟨5, .data⟩ (by simp) rfl
            clear hR
            refine if_yes rfl ?_
            unfold Oper.wp
            go_simp
            exact ⟨.bool false, rfl, ⟨fun h => HC.out.1 (by simpa using h), HC.out.2⟩, TA.refl _ _ _ _ _ _ _, put_at (by rw [hB.size, HSZ.out]; decide)⟩
        · intro aa w8 hC hB hR
          obtain ⟨_, hk8⟩ := hR 2 (by decide)
          have h162 : aa.tmps.getD 162 undef = .bool false := hR 11 (by decide)
          have HK8 := Lib.hid hk8
          have HSB8 := Lib.hid hC.2
          clear hR hC hk8
          obtain ⟨u, hu⟩ : ∃ u : Nat → Value, ∀ j, aa.tmps.getD j undef = u j := ⟨_, fun _ => rfl⟩
          have hp := hB.puts
          simp only [hu] at h162
          simp only [List.foldl_cons, List.foldl_nil, hu, h162] at hp
          clear hu hB h162
          subst hp
          rw [← HA.out]
          clear HA HSZ HX2 HX7 HX19 HX20
          change (_ : Exit → Act → World → Prop) _ (⟨#[_, _, _, _, _, _, _, _, _, _, _, _, _, _, _, _, _, _, _, _, _, _, _, _, _, _, _, _, _, _, _, _, _, _, _, _, _, _, _, _, _, _, _, _, _, _, _, _, _, _, _, _, _, _, _, _, _, _, _, _, _, _, _, _, _, _, _, _, _, _, _, _, _, _, _, _, _, _, _, _, _, _, _, _, _, _, _, _, _, _, _, _, _, _, _, _, _, _, _, _, _, _, _, _, _, _, _, _, _, _, _, _, _, _, _, _, _, _, _, _, _, _, _, _, _, _, _, _, _, _, _, _, _, _, _, _, _, _, _, _, _, _, _, _, _, _, _, _, _, _, _, _, _, _, _, _, _, _, _, _, _, _, _, _, _, _, _, _, _, _, _, _, _, _, _, _, _, _, _, _, _, _, _, _, _, _, _, _, _, _, _, _, _, _, _, _, _, _, _, _, _, _, _, _, _, _, _, _, _, _, _, _, _, _], _⟩ : Act) _
          clear HK7 HSB HAL HSA
          go_wp2_with fail
          go_loopw [21] (fun iv wq => ∃ (j : Int), -1 ≤ j ∧ j ≤ (n : Int) + 1 ∧ j ≤ (b : Int) + 1 ∧ iv = .int .i64 j ∧ Hid (Kp J0 J1 wq o zz) ∧ Hid (SbW w J0 J1 t9 b l y n s r oa2 ms zz A2 wq)) (fun iv _ => 1000 - (intOf iv + 1).toNat)
          case atStart => exact ⟨-1, by omega, by omega, by omega, rfl, HK8.out, HSB8.out⟩
          case round =>
            clear HK8 HSB8
            obtain ⟨j, hj0, hj1, hj2, rfl, HK9, HSB9⟩ := hrel
            have hnn := HNN.out
            have x3 : wr.cell? ⟨w.heap.size, 3, none⟩ = some (.int .i64 (n : Int)) := HSB9.out.2.2.2.1.cell 3
            have x0 : wr.cell? ⟨w.heap.size, 0, none⟩ = some (.int .i64 (b : Int)) := HSB9.out.2.2.2.1.cell 0
            by_cases hjn : j ≤ (n : Int)
            · by_cases hjb : j ≤ (b : Int)
              · by_cases hneg : j < 0
                · obtain rfl : j = -1 := by omega
                  have a1 : atI zz.f (-1) = 0 := rfl
                  have a2 : atI zz.c (-1) = 0 := rfl
                  go_wp2_with fail
                  refine (st_floor J0 J1 o zz _ _ HK9.out).mono ?_
                  rintro e w' ⟨rfl, rfl⟩
                  rw [a1]
                  go_wp2_with fail
                  refine (st_commitOf J0 J1 o zz _ _ HK9.out).mono ?_
                  rintro e w' ⟨rfl, rfl⟩
                  rw [a2]
                  go_wp2_with fail
                  go_roundw
                  case rel => exact ⟨0, by omega, by omega, by omega, by go_num, HK9.out, HSB9.out⟩
                  case measure => first | (simp [intOf]; done) | (simp [intOf]; omega)
                · obtain ⟨p, rfl⟩ : ∃ p : Nat, j = p := ⟨j.toNat, by omega⟩
                  obtain ⟨vf, vc, vs, vt, hA2, i1, i2, i3, i4⟩ := HSB9.out.1
                  obtain ⟨gf, of, cf, rfl, kf⟩ := ivg_some i1 HLZ.out.1 (by omega)
                  obtain ⟨gc, oc, cc, rfl, kc⟩ := ivg_some i2 HLZ.out.2.1 (by omega)
                  have hq9 : Blk wr t9 #[.slice (some ⟨gf, of, none⟩) n cf, .slice (some ⟨gc, oc, none⟩) b cc, vs, vt] 32 := by rw [← hA2]; exact HSB9.out.2.1
                  have z0 : wr.cell? ⟨t9, 0, none⟩ = some (.slice (some ⟨gf, of, none⟩) n cf) := hq9.cell 0
                  have z1 : wr.cell? ⟨t9, 1, none⟩ = some (.slice (some ⟨gc, oc, none⟩) b cc) := hq9.cell 1
                  have p0 : (0 : Int) ≤ (p : Int) := by omega
                  have hf9 : ∃ fv, atI zz.f (p : Int) = fv ∧ (p < n → wr.cell? ⟨gf, of + p, none⟩ = some (.int .i64 fv)) ∧ (¬ p < n → fv = 0) := by
                    refine ⟨_, rfl, fun h => ?_, fun h => ?_⟩
                    · unfold atI
                      rw [HLZ.out.1, if_pos (by omega), Int.toNat_natCast]
                      exact kf p h
                    · unfold atI
                      rw [HLZ.out.1, if_neg (by omega)]
                  have hc9 : ∃ cv, atI zz.c (p : Int) = cv ∧ (p < b → wr.cell? ⟨gc, oc + p, none⟩ = some (.int .i64 cv)) ∧ (¬ p < b → cv = 0) := by
                    refine ⟨_, rfl, fun h => ?_, fun h => ?_⟩
                    · unfold atI
                      rw [HLZ.out.2.1, if_pos (by omega), Int.toNat_natCast]
                      exact kc p h
                    · unfold atI
                      rw [HLZ.out.2.1, if_neg (by omega)]
                  obtain ⟨fv, a1, f1, f2⟩ := hf9
                  obtain ⟨cv, a2, e1, e2⟩ := hc9
                  clear hA2 i1 i2 i3 i4 kf kc hq9 hneg
                  by_cases hpn : p < n
                  · have f1 := f1 hpn
                    have hpnz : (p : Int) < (n : Int) := by omega
                    clear f2
                    by_cases hpb : p < b
                    · have e1 := e1 hpb
                      have hpbz : (p : Int) < (b : Int) := by omega
                      clear e2
                      go_wp2_with fail
                      refine (st_floor J0 J1 o zz _ _ HK9.out).mono ?_
                      rintro e w' ⟨rfl, rfl⟩
                      rw [a1]
                      go_wp2_with fail
                      refine (st_commitOf J0 J1 o zz _ _ HK9.out).mono ?_
                      rintro e w' ⟨rfl, rfl⟩
                      rw [a2]
                      go_wp2_with fail
                      go_roundw
                      case rel => exact ⟨(p : Int) + 1, by omega, by omega, by omega, by go_num, HK9.out, HSB9.out⟩
                      case measure => first | (simp [intOf]; done) | (simp [intOf]; omega)
                    · obtain rfl := e2 hpb
                      have hpbz : ¬ (p : Int) < (b : Int) := by omega
                      clear e1 e2
                      go_wp2_with fail
                      refine (st_floor J0 J1 o zz _ _ HK9.out).mono ?_
                      rintro e w' ⟨rfl, rfl⟩
                      rw [a1]
                      go_wp2_with fail
                      refine (st_commitOf J0 J1 o zz _ _ HK9.out).mono ?_
                      rintro e w' ⟨rfl, rfl⟩
                      rw [a2]
                      go_wp2_with fail
                      go_roundw
                      case rel => exact ⟨(p : Int) + 1, by omega, by omega, by omega, by go_num, HK9.out, HSB9.out⟩
                      case measure => first | (simp [intOf]; done) | (simp [intOf]; omega)
                  · obtain rfl := f2 hpn
                    have hpnz : ¬ (p : Int) < (n : Int) := by omega
                    clear f1 f2
                    by_cases hpb : p < b
                    · have e1 := e1 hpb
                      have hpbz : (p : Int) < (b : Int) := by omega
                      clear e2
                      go_wp2_with fail
                      refine (st_floor J0 J1 o zz _ _ HK9.out).mono ?_
                      rintro e w' ⟨rfl, rfl⟩
                      rw [a1]
                      go_wp2_with fail
                      refine (st_commitOf J0 J1 o zz _ _ HK9.out).mono ?_
                      rintro e w' ⟨rfl, rfl⟩
                      rw [a2]
                      go_wp2_with fail
                      go_roundw
                      case rel => exact ⟨(p : Int) + 1, by omega, by omega, by omega, by go_num, HK9.out, HSB9.out⟩
                      case measure => first | (simp [intOf]; done) | (simp [intOf]; omega)
                    · obtain rfl := e2 hpb
                      have hpbz : ¬ (p : Int) < (b : Int) := by omega
                      clear e1 e2
                      go_wp2_with fail
                      refine (st_floor J0 J1 o zz _ _ HK9.out).mono ?_
                      rintro e w' ⟨rfl, rfl⟩
                      rw [a1]
                      go_wp2_with fail
                      refine (st_commitOf J0 J1 o zz _ _ HK9.out).mono ?_
                      rintro e w' ⟨rfl, rfl⟩
                      rw [a2]
                      go_wp2_with fail
                      go_roundw
                      case rel => exact ⟨(p : Int) + 1, by omega, by omega, by omega, by go_num, HK9.out, HSB9.out⟩
                      case measure => first | (simp [intOf]; done) | (simp [intOf]; omega)
              · go_wp2_with fail
                refine (st_works _).mono ?_
                rintro e w9 ⟨rfl, hb9⟩
                have HB9 := Lib.hid (HSB9.out.2.2.2.2.1.trans (hb9.mono HSB9.out.2.2.2.2.1.size))
                clear hb9
                go_wp2_with fail
                go_ret
                exact ⟨rfl, HB9.out⟩
            · go_wp2_with fail
              refine (st_works _).mono ?_
              rintro e w9 ⟨rfl, hb9⟩
              have HB9 := Lib.hid (HSB9.out.2.2.2.2.1.trans (hb9.mono HSB9.out.2.2.2.2.1.size))
              clear hb9
              go_wp2_with fail
              go_ret
              exact ⟨rfl, HB9.out⟩
  · obtain rfl := hno hok
    have HOK := Lib.hid hok
    clear hy hno hb2 hok c3 hw1 HZ1 HXS HXM HB1 HG1
    go_wp2_with (refine wpList_load_row rfl 23 (.tmp 3) rfl w.heap.size rfl 23 (gv b l y n s r) (0, 0) _ HG2.out Try.underlying23 rfl size_geo ?_)
    refine (rst_new b l y n s r w2).mono ?_
    rintro e w3 ⟨_, hno3, hb3⟩
    obtain rfl := hno3 HOK.out
    have HB3 := Lib.hid (HB2.out.trans (hb3.mono HB2.out.size))
    clear hno3 hb3 HB2 HG2
    have HZN : Hid (Blk (w3.alloc (.cells #[.slice none 0 0, .slice none 0 0, .slice none 0 0, .slice none 0 0] 32)) w3.heap.size nil4 32) := Blk.new _ _ _
    have hb4 : Below w3.heap.size w3 ((w3.alloc (.cells #[.slice none 0 0, .slice none 0 0, .slice none 0 0, .slice none 0 0] 32)).setRow w3.heap.size nil4) := below_put (Nat.le_refl _) _ ((Below.refl _ _).alloc (Nat.le_refl _) _)
    have HB4 := Lib.hid (HB3.out.trans (hb4.mono HB3.out.size))
    clear hb4
    go_wp2_with (refine wpList_store_row rfl 32 (.tmp 9) (.tmp 46) rfl w3.heap.size nil4 rfl rfl 32 nil4 HZN.out size_state rfl nil4_one ?_)
    refine (st_works _).mono ?_
    rintro e w5 ⟨rfl, hb5⟩
    have HB5 := Lib.hid (HB4.out.trans (hb5.mono HB4.out.size))
    clear hb5
    go_wp2_with fail
    go_ret
    exact ⟨rfl, HB5.out⟩

end Go.Proofs.Ytgnjknboahcmgaa
