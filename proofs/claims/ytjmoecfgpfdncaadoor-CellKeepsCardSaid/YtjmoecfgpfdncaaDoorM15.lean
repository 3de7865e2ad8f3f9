/- Texts of one claim, merged: CeK, CeK2, Inv4, CeK3, CeK4. -/
import Derived.Test.YtjmoecfgpfdncaaDoorM14
import Derived.Test.YtjmoecfgpfdncaaDoorM3

/- Layer 8, the laws: a cell programmed line by line. -/
namespace Go.Proofs.YtjmoecfgpfdncaaDoor
set_option maxRecDepth 100000
open Go.RowKit

/-- i lines are programmed, each with the page of its number -/
structure KPs (L i : Nat) (s : St) : Prop where
  wf : WfSt s
  l : s.L = L
  y : s.Y = 8
  bad : s.bad = false
  torn : s.torn = false
  mode : s.mode = 0 ∧ i = 0 ∨ s.mode = 1
  done : s.done = i
  page : ∀ j, pageAt s (3 * j) = if j < i then pgS j else ByteArray.empty
  mark : ∀ j, s.hs.getD (3 * j) false = false
  cnt : s.slc = 0 ∧ s.tlc = 0
theorem KPs.zero (L : Nat) (h1 : 1 ≤ L) (h2 : L ≤ 64) : KPs L 0 (newSt L 8) :=
  ⟨newSt_ok h1 h2 ⟨by decide, by decide, by decide⟩, rfl, rfl, rfl, rfl, Or.inl ⟨rfl, rfl⟩, rfl, fun j => by rw [if_neg (by omega)]; exact new_page L _, fun j => new_mark L _, rfl, rfl⟩
theorem KPs.ok {L i : Nat} {s : St} (h : KPs L i s) (hi : i < L) : ProgOk s (i : Nat) (pgS i) :=
  ⟨h.bad, h.torn, by rcases h.mode with h1 | h1 <;> omega, by rw [h.done], by rw [h.l]; omega, takes_pg s h.y i⟩
theorem KPs.next {L i : Nat} {s : St} (h : KPs L i s) (hi : i < L) : KPs L (i + 1) (progSt s (i : Nat) (pgS i) 0 0 0) ∧ progC s (i : Nat) (pgS i) 0 = 0 := by
  have hok := h.ok hi
  have hp := pr_yes (k := 0) (a := 0) (b := 0) hok
  have hw := progSt_wf h.wf (i : Nat) (pgS i) 0 0 0
  refine ⟨?_, hp.2⟩
  rw [hp.1] at hw ⊢
  have e : endSt (putSt (stepSt s 1) (3 * (i : Int).toNat) (pageT (pgS i) 0 0 0) (hurtsB 0)) 0 = putSt (stepSt s 1) (3 * i) (pgS i) false := by simp [endSt, pageT, hurtsB]
  rw [e] at hw ⊢
  refine ⟨hw, h.l, h.y, h.bad, h.torn, Or.inr rfl, by show s.done + 1 = i + 1; rw [h.done], fun j => ?_, fun j => ?_, h.cnt⟩
  · rw [put_page _ _ _ _ _ (by show 3 * i < s.ps.length; rw [h.wf.psl, h.l]; omega)]
    by_cases e : j = i
    · subst e; rw [if_pos rfl, if_pos (by omega)]
    · rw [if_neg (by omega)]
      show pageAt s (3 * j) = _
      rw [h.page j]
      by_cases e2 : j < i
      · rw [if_pos e2, if_pos (by omega)]
      · rw [if_neg e2, if_neg (by omega)]
  · rw [put_mark _ _ _ _ _ (by show 3 * i < s.hs.length; rw [h.wf.hsl, h.l]; omega)]
    split
    · rfl
    · exact h.mark j
/-- the last one is cut, or fails -/
theorem KPs.last {L i : Nat} {s : St} (h : KPs L i s) (hi : i < L) (k a b : Int) (hk : hurtsB k = true) :
    let t := progSt s (i : Nat) (pgS i) k a b
    progC s (i : Nat) (pgS i) k = endC k ∧ t = endSt (putSt (stepSt s 1) (3 * i) (hurtT (pgS i) a b) true) k := by
  have hok := h.ok hi
  have hp := pr_yes (k := k) (a := a) (b := b) hok
  refine ⟨hp.2, ?_⟩
  rw [hp.1]
  unfold pageT
  rw [hk, if_pos rfl]
  simp
/-- what each line is told as -/
theorem KPs.told {L i : Nat} {s : St} (h : KPs L i s) (j : Nat) (hj : j < L) (hi : i ≤ 100) : readC s (j : Nat) (0 : Nat) = 0 ∧ (j < i → readT s (j : Nat) (0 : Nat) = pgS j ∧ pageV (readT s (j : Nat) (0 : Nat)) = pv 2 1 j j 0 (byte8 j)) ∧ (¬ j < i → pageV (readT s (j : Nat) (0 : Nat)) = pv 1 0 0 0 0 ByteArray.empty) := by
  have hok : ReadOk s (j : Nat) (0 : Nat) := ⟨by omega, by rw [h.l]; omega, by omega, by omega, fun hc => hc.2 rfl⟩
  have hr := read_yes hok
  have hpj := h.page j
  have hmj := h.mark j
  have hfog : isFog s (3 * j) = false := by
    unfold isFog
    rcases h.mode with h1 | h1
    · rw [h1.1]; rfl
    · rw [h1]; rfl
  rw [hr.1, hr.2]
  refine ⟨rfl, fun hlt => ?_, fun hlt => ?_⟩
  · rw [if_pos hlt] at hpj
    have ha : atT s (3 * j + 0) = pgS j := by
      show atT s (3 * j) = pgS j
      unfold atT
      rw [hpj, hmj, hfog, if_neg (pg_full j), if_neg (by simp), if_neg (by simp)]
    rw [ha]
    exact ⟨rfl, page_good j (by omega)⟩
  · rw [if_neg hlt] at hpj
    rw [(at_blank (s := s) (j := 3 * j + 0) hpj).1, h.y]
    exact blank_is

end Go.Proofs.YtjmoecfgpfdncaaDoor

/- Layer 8, the laws: a cell programmed line by line, the last one cut or failing. -/
namespace Go.Proofs.YtjmoecfgpfdncaaDoor
set_option maxRecDepth 100000
open Go.RowKit

/-- n lines are programmed, and the line n as it goes -/
structure KTs (L n : Nat) (k a b : Int) (t : St) : Prop where
  wf : WfSt t
  l : t.L = L
  y : t.Y = 8
  bad : t.bad = (k == 2)
  torn : t.torn = (k == 1)
  mode : t.mode = 1
  done : t.done = n + 1
  page : ∀ j, pageAt t (3 * j) = if j = n then pageT (pgS n) k a b else if j < n then pgS j else ByteArray.empty
  mark : ∀ j, t.hs.getD (3 * j) false = if j = n then hurtsB k else false
  cnt : t.slc = 0 ∧ t.tlc = 0
theorem KPs.ends {L n : Nat} {s : St} (h : KPs L n s) (hn : n < L) (k a b : Int) : KTs L n k a b (progSt s (n : Nat) (pgS n) k a b) ∧ progC s (n : Nat) (pgS n) k = endC k := by
  have hok := h.ok hn
  have hp := pr_yes (k := k) (a := a) (b := b) hok
  have hw := progSt_wf h.wf (n : Nat) (pgS n) k a b
  refine ⟨?_, hp.2⟩
  rw [hp.1] at hw ⊢
  obtain ⟨u, hu⟩ : ∃ u, putSt (stepSt s 1) (3 * (n : Int).toNat) (pageT (pgS n) k a b) (hurtsB k) = u := ⟨_, rfl⟩
  have hu2 : putSt (stepSt s 1) (3 * n) (pageT (pgS n) k a b) (hurtsB k) = u := by rw [← hu]; simp
  have hpg := fun j => put_page (stepSt s 1) (3 * n) j (pageT (pgS n) k a b) (hurtsB k) (by show 3 * n < s.ps.length; rw [h.wf.psl, h.l]; omega)
  have hmk := fun j => put_mark (stepSt s 1) (3 * n) j (pageT (pgS n) k a b) (hurtsB k) (by show 3 * n < s.hs.length; rw [h.wf.hsl, h.l]; omega)
  rw [hu2] at hpg hmk
  rw [hu] at hw ⊢
  have hf := endSt_flags (s := u) k (by rw [← hu]; exact h.bad) (by rw [← hu]; exact h.torn)
  have hs := end_same u k
  have hps := endSt_ps u k
  refine ⟨hw, ?_, ?_, hf.1, hf.2.1, ?_, ?_, fun j => ?_, fun j => ?_, ?_⟩
  · rw [hs.1, ← hu]; exact h.l
  · rw [hs.2.1, ← hu]; exact h.y
  · rw [hs.2.2.1, ← hu]; rfl
  · rw [hs.2.2.2, ← hu]; show s.done + 1 = n + 1; rw [h.done]
  · have e : pageAt (endSt u k) (3 * j) = pageAt u (3 * j) := by unfold pageAt; rw [hps.1]
    rw [e, hpg]
    by_cases e1 : j = n
    · subst e1; rw [if_pos rfl, if_pos rfl]
    · rw [if_neg (by omega), if_neg e1]
      exact h.page j
  · rw [hps.2, hmk]
    by_cases e1 : j = n
    · subst e1; rw [if_pos rfl, if_pos rfl]
    · rw [if_neg (by omega), if_neg e1]
      exact h.mark j
  · rw [hf.2.2.1, hf.2.2.2, ← hu]; exact h.cnt
/-- what is read of it -/
theorem KTs.told {L n : Nat} {k a b : Int} {t : St} (h : KTs L n k a b t) (j : Nat) (hj : j < L) (hL : L ≤ 20) : readC t (j : Nat) (0 : Nat) = 0
    ∧ (j < n ∨ j = n ∧ hurtsB k = false → readT t (j : Nat) (0 : Nat) = pgS j ∧ pageV (pgS j) = pv 2 1 j j 0 (byte8 j))
    ∧ (j = n → hurtsB k = true → pageV (readT t (j : Nat) (0 : Nat)) = pv 4 0 0 0 0 ByteArray.empty)
    ∧ (n < j → pageV (readT t (j : Nat) (0 : Nat)) = pv 1 0 0 0 0 ByteArray.empty) := by
  have hok : ReadOk t (j : Nat) (0 : Nat) := ⟨by omega, by rw [h.l]; omega, by omega, by omega, fun hc => hc.2 rfl⟩
  have hr := read_yes hok
  have hpj := h.page j
  have hfog : isFog t (3 * j) = false := by unfold isFog; rw [h.mode]; rfl
  rw [hr.1, hr.2]
  have e0 : atT t (3 * j + 0) = atT t (3 * j) := rfl
  rw [e0]
  have hat : ¬ pageAt t (3 * j) = ByteArray.empty → atT t (3 * j) = pageAt t (3 * j) := by
    intro hne
    unfold atT
    rw [if_neg hne, hfog]
    split <;> rfl
  refine ⟨rfl, fun hc => ?_, fun hc hk => ?_, fun hc => ?_⟩
  · have hpe : pageAt t (3 * j) = pgS j := by
      rw [hpj]
      rcases hc with hc | ⟨hc, hk⟩
      · rw [if_neg (by omega), if_pos hc]
      · subst hc
        rw [if_pos rfl]
        unfold pageT
        rw [hk, if_neg (by simp)]
    rw [hat (by rw [hpe]; exact pg_full j), hpe]
    exact ⟨rfl, page_good j (by omega)⟩
  · have hpe : pageAt t (3 * j) = hurtT (pgS j) a b := by
      subst hc
      rw [hpj, if_pos rfl]
      unfold pageT
      rw [if_pos hk]
    rw [hat (by rw [hpe]; exact full_of_size (n := 35) (by rw [hurtT_size, pgS_size])), hpe]
    exact page_hurt j a b
  · have hpe : pageAt t (3 * j) = ByteArray.empty := by rw [hpj, if_neg (by omega), if_neg (by omega)]
    rw [(at_blank hpe).1, h.y]
    exact blank_is
theorem KTs.small {L n : Nat} {k a b : Int} {t : St} (h : KTs L n k a b t) (j : Int) : (readT t j 0).size ≤ 400 := by
  unfold readT
  split
  · exact atT_size h.wf _
  · decide
/-- it takes nothing more, if it was hurt -/
theorem KTs.no {L n : Nat} {k a b : Int} {t : St} (h : KTs L n k a b t) (hk : hurtsB k = true) (line : Int) (p : ByteArray) : progSt t line p 0 0 0 = t ∧ progC t line p 0 = 80 := by
  refine pr_no (fun hok => ?_)
  have h1 := hok.1
  have h2 := hok.2.1
  rw [h.bad] at h1
  rw [h.torn] at h2
  unfold hurtsB at hk
  rw [h1, h2] at hk
  cases hk
/-- .. erased again -/
theorem KTs.again {L n : Nat} {k a b : Int} {t : St} (h : KTs L n k a b t) : (k = 2 → eraseC t 0 = 80) ∧ (¬ k = 2 → eraseC t 0 = 0 ∧ (eraseSt t 0 0 0).mode = 0 ∧ (eraseSt t 0 0 0).done = 0 ∧ (eraseSt t 0 0 0).torn = false) := by
  refine ⟨fun hk => ?_, fun hk => ?_⟩
  · unfold eraseC
    rw [h.bad, hk]
    rfl
  · have hb : t.bad = false := by rw [h.bad]; simpa using hk
    unfold eraseC eraseSt
    rw [hb, if_neg (by simp), if_neg (by simp), if_neg (by decide)]
    exact ⟨rfl, rfl, rfl, rfl⟩

end Go.Proofs.YtjmoecfgpfdncaaDoor

/- As XInv3, where some operations (those of Post) come behind the one that comes behind all others. -/
namespace Go.Proofs.YtjmoecfgpfdncaaDoor

section
variable {P : Program} {ops : Array Oper} {Q : Exit → Act → World → Prop} {md : Region.Mode}

theorem wpAny_facts5 {Base : Act → Prop} {C : World → Prop} {T : World → World → Prop} {R : Nat → Act → World → Prop} {S : Nat → List Tmp} (z : Nat) (Post : Nat → Bool) (hzb : z < ops.size)
    (hbefore : ∀ (i : Nat) (o : Oper), ops[i]? = some o → ∀ e ∈ o.after, Region.binds md e = true → e.on < i)
    (hslots : ∀ (i j : Nat) (o o' : Oper), ops[i]? = some o → ops[j]? = some o' → j ≠ i → (∀ e ∈ o'.after, Region.binds md e = true → e.on ≠ i) → ∀ d, o.dst = some d → d ∉ S j)
    (hext : ∀ j a a' w w', R j a w → (∀ s ∈ S j, a'.tmps.getD s undef = a.tmps.getD s undef) → T w w' → R j a' w')
    (hbase : ∀ (i : Nat) (o : Oper), ops[i]? = some o → ∀ a v, Base a → Base (a.put o.dst v))
    (hlast : ∀ o, ops[z]? = some o → ∀ i, i < ops.size → i ≠ z → Post i = false → ∃ e ∈ o.after, Region.binds md e = true ∧ (e.on = i ∨ ∃ o2, ops[e.on]? = some o2 ∧ ∃ e2 ∈ o2.after, Region.binds md e2 = true ∧ e2.on = i))
    (hpost : ∀ (i : Nat) (o : Oper), ops[i]? = some o → Post i = true → ∃ e ∈ o.after, Region.binds md e = true ∧ e.on = z)
    (hops : ∀ (i : Nat) (o : Oper), ops[i]? = some o → ∀ a w, (Post i = false → C w) → Base a → (∀ e ∈ o.after, Region.binds md e = true → R e.on a w) →
      wpOp P ops Q i (fun a' w' => ∃ v, a' = a.put o.dst v ∧ (i ≠ z → Post i = false → C w') ∧ T w w' ∧ R i a' w') a w)
    (hfin : ∀ a w, Base a → (∀ i, i < ops.size → R i a w) → Q .normal a w) :
    ∀ (fuel : Nat) (listed : Array Bool) (a : Act) (w : World), still ops.size listed ≤ fuel → listed.size = ops.size → (listed.getD z true = false → C w) → Base a →
      (∀ i, i < ops.size → listed.getD i true = true → R i a w ∧ ∀ o, ops[i]? = some o → ∀ e ∈ o.after, Region.binds md e = true → listed.getD e.on true = true) → wpAny P md ops Q fuel listed a w := by
  have all : ∀ (listed : Array Bool), listed.size = ops.size → Region.ready md ops listed = [] → ∀ i, i < ops.size → listed.getD i true = true := by
    intro listed hsz hr i
    induction i using Nat.strongRecOn with
    | ind i ih =>
      intro hi
      cases hl : listed.getD i true with
      | true => rfl
      | false =>
        exfalso
        have hm : i ∈ Region.ready md ops listed := by
          rw [mem_ready]
          refine ⟨hl, ops[i], by simp [hi], fun e he hb => ?_⟩
          have hlt := hbefore i ops[i] (by simp [hi]) e he hb
          have h2 := ih e.on hlt (by omega)
          have h3 : e.on < listed.size := by omega
          simp [Array.getD, h3] at h2 ⊢
          exact h2
        rw [hr] at hm; cases hm
  intro fuel
  induction fuel with
  | zero =>
    intro listed a w hst hsz hC hB hR
    have hall := still_zero (Nat.le_zero.1 hst)
    have hr : Region.ready md ops listed = [] := by
      cases h : Region.ready md ops listed with
      | nil => rfl
      | cons i l =>
        have hm : i ∈ Region.ready md ops listed := by rw [h]; exact List.mem_cons_self
        obtain ⟨h1, o, ho, _⟩ := mem_ready.1 hm
        have hi : i < ops.size := (Array.getElem?_eq_some_iff.1 ho).1
        rw [hall i hi] at h1; cases h1
    exact ⟨hr, hfin a w hB fun i hi => (hR i hi (hall i hi)).1⟩
  | succ fuel ih =>
    intro listed a w hst hsz hC hB hR
    refine ⟨fun hr => hfin a w hB fun i hi => (hR i hi (all listed hsz hr i hi)).1, fun i hi => ?_⟩
    obtain ⟨h1, o, ho, hdeps⟩ := mem_ready.1 hi
    have hin : i < ops.size := (Array.getElem?_eq_some_iff.1 ho).1
    have hdl : ∀ e ∈ o.after, Region.binds md e = true → listed.getD e.on true = true := by
      intro e he hb
      have hlt := hbefore i o ho e he hb
      have h2 := hdeps e he hb
      have h3 : e.on < listed.size := by omega
      simp [Array.getD, h3] at h2 ⊢
      exact h2
    have hCw : Post i = false → C w := by
      intro hpf
      apply hC
      by_cases e : i = z
      · rw [← e]; exact h1
      · cases hz : listed.getD z true with
        | false => rfl
        | true =>
          exfalso
          obtain ⟨_, hdz⟩ := hR z hzb hz
          obtain ⟨e', he', hb', hon⟩ := hlast ops[z] (by simp [hzb]) i hin e hpf
          have h4 := hdz ops[z] (by simp [hzb]) e' he' hb'
          rcases hon with hon | ⟨o2, ho2, e2, he2, hb2, hon⟩
          · rw [hon, h1] at h4; cases h4
          · obtain ⟨_, hd2⟩ := hR e'.on (Array.getElem?_eq_some_iff.1 ho2).1 h4
            have h5 := hd2 o2 ho2 e2 he2 hb2
            rw [hon, h1] at h5; cases h5
    refine wpOp_mono ?_ (hops i o ho a w hCw hB fun e he hb => (hR e.on (by have := hbefore i o ho e he hb; omega) (hdl e he hb)).1)
    rintro a' w' ⟨v, rfl, hC', hT, hRv⟩
    have hless := still_less hin h1
    have keep : ∀ k, listed.getD k true = true → (listed.setIfInBounds i true).getD k true = true := by
      intro k hk
      by_cases e : k = i
      · subst e
        have hs : k < listed.size := by omega
        simp [Array.getD, hs]
      · rw [getD_set_ne true (Ne.symm e)]; exact hk
    refine ih _ _ _ (by omega) (by simp [hsz]) (fun hz => hC' (fun e => ?_) ?_) (hbase i o ho a v hB) fun j hj hlj => ?_
    · subst e
      have hs : i < listed.size := by omega
      simp [Array.getD, hs] at hz
    · cases hp : Post i with
      | false => rfl
      | true =>
        exfalso
        obtain ⟨e', he', hb', hon⟩ := hpost i o ho hp
        have h4 := keep z (by rw [← hon]; exact hdl e' he' hb')
        rw [hz] at h4; cases h4
    by_cases e : j = i
    · subst e
      refine ⟨hRv, fun o' ho' e he hb => keep _ ?_⟩
      obtain rfl : o' = o := Option.some.inj (ho'.symm.trans ho)
      exact hdl e he hb
    · rw [getD_set_ne true (Ne.symm e)] at hlj
      obtain ⟨hRj, hdj⟩ := hR j hj hlj
      refine ⟨hext j a _ w w' hRj (fun s hs => put_slot fun x hx hxs => ?_) hT, fun o' ho' e he hb => keep _ (hdj o' ho' e he hb)⟩
      subst hxs
      refine hslots i j o ops[j] ho (by simp [hj]) e (fun e' he' hb' hne => ?_) x hx hs
      have := hdj ops[j] (by simp [hj]) e' he' hb'
      rw [hne, h1] at this; cases this

/-- does operation z come behind all others but those of Post, and these behind it? -/
def lastB5 (l : List Oper) (z : Nat) (Post : Nat → Bool) : Bool := match l[z]? with
  | none => false
  | some o => ((List.range l.length).all fun i => i == z || Post i || o.after.any fun e => Region.binds .any e && (e.on == i || match l[e.on]? with
      | none => false
      | some o2 => o2.after.any fun e2 => Region.binds .any e2 && e2.on == i)) && ((List.range l.length).all fun i => match l[i]? with
    | none => true
    | some o' => !Post i || o'.after.any fun e => Region.binds .any e && e.on == z)
/-- .. where operations may be guarded: an operation that is not wanted leaves its slot undefined -/
theorem wp_region_list5 {id : Nat} {l : List Oper} {a : Act} {w : World} (z : Nat) (Post : Nat → Bool) (S : List (List Tmp)) (Base : Act → Prop) (C : World → Prop) (T : World → World → Prop) (R : Nat → Act → World → Prop) (hm : P.follows .mixedOrders = true)
    (hzl : z < l.length) (hzB : lastB5 l z Post = true) (hpl : planB l S = true) (hext : ∀ j a a' w w', R j a w → (∀ s ∈ S.getD j [], a'.tmps.getD s undef = a.tmps.getD s undef) → T w w' → R j a' w')
    (hbase : AllFrom (fun _ o => ∀ a v, Base a → Base (a.put o.dst v)) 0 l) (hC : C { w with drawn := w.drawn + 1 }) (hB : Base a)
    (hops : AllFrom (fun i o => ∀ a w, (Post i = false → C w) → Base a → (∀ e ∈ o.after, Region.binds .any e = true → R e.on a w) →
      if Region.wanted o (yielded l.toArray a.tmps) = true then o.wp P a w (Leaves (fun w' => i ≠ z → Post i = false → C w') T R i o a w) Q
      else Leaves (fun w' => i ≠ z → Post i = false → C w') T R i o a w (a.put o.dst undef) w) 0 l)
    (hfin : ∀ a w, Base a → (∀ i, i < l.length → R i a w) → Q .normal a w) : (Code.region id l.toArray true).wp P Q a w := by
  have hp := List.all_eq_true.1 hpl
  refine wp_region_any hm (wpAny_facts5 z Post (by simpa using hzl) (S := fun j => S.getD j []) (Base := Base) (C := C) (T := T) (R := R) ?_ ?_ hext hbase.all ?_ ?_
    (fun i o ho a w h1 h2 h3 => ?_)
    (fun a w h2 h3 => hfin a w h2 fun i hi => h3 i (by simpa using hi)) _ _ _ _ ?_ (by simp) (fun _ => hC) hB ?_)
  · intro i o ho e he hb
    have ho' : l[i]? = some o := by simpa using ho
    have h1 := hp i (List.mem_range.2 (List.getElem?_eq_some_iff.1 ho').1)
    simp only [ho', Bool.and_eq_true] at h1
    have h2 := (Array.all_eq_true_iff_forall_mem.1 h1.1) e he
    simpa [hb] using h2
  · intro i j o o' ho ho' hne hno d hd
    have hi : l[i]? = some o := by simpa using ho
    have hj : l[j]? = some o' := by simpa using ho'
    have h1 := hp i (List.mem_range.2 (List.getElem?_eq_some_iff.1 hi).1)
    simp only [hi, hd, Bool.and_eq_true] at h1
    have h2 := List.all_eq_true.1 h1.2 j (List.mem_range.2 (List.getElem?_eq_some_iff.1 hj).1)
    simp only [hj, Bool.or_eq_true, beq_iff_eq] at h2
    rcases h2 with h2 | h2 | h2
    · exact absurd h2 hne
    · obtain ⟨k, hk, hb⟩ := Array.any_eq_true.1 h2
      obtain ⟨e, he⟩ : ∃ e, e = o'.after[k] := ⟨_, rfl⟩
      rw [← he] at hb
      have he : e ∈ o'.after := by rw [he]; exact Array.getElem_mem hk
      simp only [Bool.and_eq_true, beq_iff_eq] at hb
      exact absurd hb.2 (hno e he hb.1)
    · intro hm
      simp at h2
      exact h2 hm
  · intro o ho i hi hne hpf
    have ho' : l[z]? = some o := by simpa using ho
    have hi' : i < l.length := by simpa using hi
    unfold lastB5 at hzB
    rw [ho'] at hzB
    simp only [Bool.and_eq_true] at hzB
    have h1 := List.all_eq_true.1 hzB.1 i (List.mem_range.2 hi')
    simp only [Bool.or_eq_true, beq_iff_eq] at h1
    rcases h1 with (h1 | h1) | h1
    · exact absurd h1 hne
    · rw [hpf] at h1; cases h1
    · obtain ⟨k, hk, hb⟩ := Array.any_eq_true.1 h1
      simp only [Bool.and_eq_true, Bool.or_eq_true, beq_iff_eq] at hb
      refine ⟨o.after[k], Array.getElem_mem hk, hb.1, hb.2.imp (fun h => h) fun h2 => ?_⟩
      cases ho2 : l[o.after[k].on]? with
      | none => rw [ho2] at h2; cases h2
      | some o2 =>
        rw [ho2] at h2
        obtain ⟨k2, hk2, hb2⟩ := Array.any_eq_true.1 h2
        simp only [Bool.and_eq_true, beq_iff_eq] at hb2
        exact ⟨o2, by simpa using ho2, o2.after[k2], Array.getElem_mem hk2, hb2.1, hb2.2⟩
  · intro i o ho hpt
    have ho' : l[i]? = some o := by simpa using ho
    have hi' : i < l.length := (List.getElem?_eq_some_iff.1 ho').1
    unfold lastB5 at hzB
    cases hz : l[z]? with
    | none => rw [hz] at hzB; cases hzB
    | some oz =>
      rw [hz] at hzB
      simp only [Bool.and_eq_true] at hzB
      have h1 := List.all_eq_true.1 hzB.2 i (List.mem_range.2 hi')
      rw [ho'] at h1
      simp only [hpt, Bool.not_true, Bool.false_or] at h1
      obtain ⟨k, hk, hb⟩ := Array.any_eq_true.1 h1
      simp only [Bool.and_eq_true, beq_iff_eq] at hb
      exact ⟨o.after[k], Array.getElem_mem hk, hb.1, hb.2⟩
  · have h4 := hops.all i o ho a w h1 h2 h3
    unfold wpOp
    simp only [ho]
    by_cases hw : Region.wanted o (yielded l.toArray a.tmps) = true
    · rw [if_pos hw] at h4 ⊢
      exact Or.inl h4
    · rw [if_neg hw] at h4 ⊢
      exact h4
  · unfold still
    exact Nat.le_trans (List.length_filter_le _ _) (by simp)
  · intro i hi h
    have hi' : i < l.length := by simpa using hi
    simp [Array.getD] at h
    omega

end
end Go.Proofs.YtjmoecfgpfdncaaDoor

/- Layer 8, the laws: CellKeeps: the last one programmed. -/
namespace Go.Proofs.YtjmoecfgpfdncaaDoor
set_option maxRecDepth 100000
open Go.RowKit

theorem no_specialU : ∀ (j : Nat) (a a' : Act) (w w' : World), (fun _ _ _ => False : Nat → Act → World → Prop) j a w → (∀ d ∈ ([] : List Tmp), a'.tmps.getD d undef = a.tmps.getD d undef) → True → (fun _ _ _ => False : Nat → Act → World → Prop) j a' w' := fun _ _ _ _ _ h _ _ => h
/-- the last one is programmed -/
structure SpKE (w1 : World) (o : Nat) (t : St) (ec : Int) (j : Nat) (a : Act) (w : World) : Prop where
  one : j = 5 → a.tmps.getD 62 undef = .int .i64 ec ∧ ∃ F2, EX w1 o F2 t w
theorem SpKE.ext (w1 : World) (o : Nat) (t : St) (ec : Int) : ∀ (j : Nat) (a a' : Act) (w w' : World), SpKE w1 o t ec j a w → (∀ d ∈ (if j = 5 then [62] else []), a'.tmps.getD d undef = a.tmps.getD d undef) → ((∃ F2, EX w1 o F2 t w) → ∃ F2, EX w1 o F2 t w') → SpKE w1 o t ec j a' w' := by
  rintro j a a' w w' ⟨f⟩ hx hT
  exact ⟨fun h => ⟨(hx 62 (by rw [if_pos h]; exact List.mem_singleton_self _)).trans (f h).1, hT (f h).2⟩⟩
/-- what each operation of the region KE leaves -/
def vsKE (o n : Nat) (x k a b ec : Int) : List (Option (Tmp × Value)) :=
  [some (57, .pointer (some ⟨o, 0, none⟩)), some (58, .int .i64 (n : Int)), some (59, .int .i64 (n : Int)), some (60, .string (pgS n)), some (61, .agg (fv x k a b)), none, some (10, .int .i64 ec)]
/-- the frame while the region KE runs -/
def BaseKE (o L n B : Nat) (a : Act) : Prop := ∃ u : Nat → Value, a = ⟨#[.int .i64 (L : Int), .int .i64 (n : Int), u 2, u 3, u 4, .pointer (some ⟨B, 0, none⟩), u 6, .pointer (some ⟨o, 0, none⟩), u 8, u 9, u 10, u 11, u 12, u 13, u 14, u 15, u 16, u 17, u 18, u 19, u 20, u 21, u 22, u 23, u 24, u 25, u 26, u 27, u 28, u 29, u 30, u 31, u 32, u 33, u 34, u 35, u 36, u 37, u 38, u 39, u 40, u 41, u 42, u 43, u 44, u 45, u 46, u 47, u 48, u 49, u 50, u 51, u 52, u 53, u 54, u 55, u 56, u 57, u 58, u 59, u 60, u 61, u 62, u 63, u 64, u 65, u 66, u 67, u 68, u 69, u 70, u 71, u 72, u 73, u 74, u 75, u 76, u 77, u 78, u 79, u 80, u 81, u 82, u 83, u 84, u 85, u 86, u 87, u 88, u 89, u 90, u 91, u 92, u 93, u 94, u 95, u 96, u 97, u 98, u 99, u 100, u 101, u 102, u 103, u 104, u 105, u 106, u 107, u 108, u 109, u 110, u 111, u 112, u 113, u 114, u 115, u 116, u 117, u 118, u 119, u 120, u 121, u 122, u 123, u 124, u 125, u 126, u 127, u 128, u 129, u 130, u 131, u 132, u 133, u 134, u 135, u 136, u 137, u 138, u 139, u 140, u 141, u 142, u 143, u 144, u 145, u 146, u 147, u 148, u 149, u 150, u 151, u 152, u 153, u 154, u 155, u 156, u 157, u 158, u 159, u 160, u 161, u 162, u 163, u 164, u 165, u 166, u 167, u 168, u 169, u 170, u 171, u 172, u 173, u 174, u 175, u 176, u 177, u 178, u 179, u 180], []⟩
theorem BaseKE.of {o L n B : Nat} (arr : Array Value) (h : arr = #[.int .i64 (L : Int), .int .i64 (n : Int), arr.getD 2 undef, arr.getD 3 undef, arr.getD 4 undef, .pointer (some ⟨B, 0, none⟩), arr.getD 6 undef, .pointer (some ⟨o, 0, none⟩), arr.getD 8 undef, arr.getD 9 undef, arr.getD 10 undef, arr.getD 11 undef, arr.getD 12 undef, arr.getD 13 undef, arr.getD 14 undef, arr.getD 15 undef, arr.getD 16 undef, arr.getD 17 undef, arr.getD 18 undef, arr.getD 19 undef, arr.getD 20 undef, arr.getD 21 undef, arr.getD 22 undef, arr.getD 23 undef, arr.getD 24 undef, arr.getD 25 undef, arr.getD 26 undef, arr.getD 27 undef, arr.getD 28 undef, arr.getD 29 undef, arr.getD 30 undef, arr.getD 31 undef, arr.getD 32 undef, arr.getD 33 undef, arr.getD 34 undef, arr.getD 35 undef, arr.getD 36 undef, arr.getD 37 undef, arr.getD 38 undef, arr.getD 39 undef, arr.getD 40 undef, arr.getD 41 undef, arr.getD 42 undef, arr.getD 43 undef, arr.getD 44 undef, arr.getD 45 undef, arr.getD 46 undef, arr.getD 47 undef, arr.getD 48 undef, arr.getD 49 undef, arr.getD 50 undef, arr.getD 51 undef, arr.getD 52 undef, arr.getD 53 undef, arr.getD 54 undef, arr.getD 55 undef, arr.getD 56 undef, arr.getD 57 undef, arr.getD 58 undef, arr.getD 59 undef, arr.getD 60 undef, arr.getD 61 undef, arr.getD 62 undef, arr.getD 63 undef, arr.getD 64 undef, arr.getD 65 undef, arr.getD 66 undef, arr.getD 67 undef, arr.getD 68 undef, arr.getD 69 undef, arr.getD 70 undef, arr.getD 71 undef, arr.getD 72 undef, arr.getD 73 undef, arr.getD 74 undef, arr.getD 75 undef, arr.getD 76 undef, arr.getD 77 undef, arr.getD 78 undef, arr.getD 79 undef, arr.getD 80 undef, arr.getD 81 undef, arr.getD 82 undef, arr.getD 83 undef, arr.getD 84 undef, arr.getD 85 undef, arr.getD 86 undef, arr.getD 87 undef, arr.getD 88 undef, arr.getD 89 undef, arr.getD 90 undef, arr.getD 91 undef, arr.getD 92 undef, arr.getD 93 undef, arr.getD 94 undef, arr.getD 95 undef, arr.getD 96 undef, arr.getD 97 undef, arr.getD 98 undef, arr.getD 99 undef, arr.getD 100 undef, arr.getD 101 undef, arr.getD 102 undef, arr.getD 103 undef, arr.getD 104 undef, arr.getD 105 undef, arr.getD 106 undef, arr.getD 107 undef, arr.getD 108 undef, arr.getD 109 undef, arr.getD 110 undef, arr.getD 111 undef, arr.getD 112 undef, arr.getD 113 undef, arr.getD 114 undef, arr.getD 115 undef, arr.getD 116 undef, arr.getD 117 undef, arr.getD 118 undef, arr.getD 119 undef, arr.getD 120 undef, arr.getD 121 undef, arr.getD 122 undef, arr.getD 123 undef, arr.getD 124 undef, arr.getD 125 undef, arr.getD 126 undef, arr.getD 127 undef, arr.getD 128 undef, arr.getD 129 undef, arr.getD 130 undef, arr.getD 131 undef, arr.getD 132 undef, arr.getD 133 undef, arr.getD 134 undef, arr.getD 135 undef, arr.getD 136 undef, arr.getD 137 undef, arr.getD 138 undef, arr.getD 139 undef, arr.getD 140 undef, arr.getD 141 undef, arr.getD 142 undef, arr.getD 143 undef, arr.getD 144 undef, arr.getD 145 undef, arr.getD 146 undef, arr.getD 147 undef, arr.getD 148 undef, arr.getD 149 undef, arr.getD 150 undef, arr.getD 151 undef, arr.getD 152 undef, arr.getD 153 undef, arr.getD 154 undef, arr.getD 155 undef, arr.getD 156 undef, arr.getD 157 undef, arr.getD 158 undef, arr.getD 159 undef, arr.getD 160 undef, arr.getD 161 undef, arr.getD 162 undef, arr.getD 163 undef, arr.getD 164 undef, arr.getD 165 undef, arr.getD 166 undef, arr.getD 167 undef, arr.getD 168 undef, arr.getD 169 undef, arr.getD 170 undef, arr.getD 171 undef, arr.getD 172 undef, arr.getD 173 undef, arr.getD 174 undef, arr.getD 175 undef, arr.getD 176 undef, arr.getD 177 undef, arr.getD 178 undef, arr.getD 179 undef, arr.getD 180 undef]) : BaseKE o L n B ⟨arr, []⟩ := ⟨fun i => arr.getD i undef, by rw [← h]⟩
theorem BaseKE.put57 {o L n B : Nat} (a : Act) (v : Value) (h : BaseKE o L n B a) : BaseKE o L n B (a.put (some 57) v) := by
  obtain ⟨u, rfl⟩ := h
  exact ⟨fun i => if i = 57 then v else u i, by kernel_rfl⟩
theorem BaseKE.put58 {o L n B : Nat} (a : Act) (v : Value) (h : BaseKE o L n B a) : BaseKE o L n B (a.put (some 58) v) := by
  obtain ⟨u, rfl⟩ := h
  exact ⟨fun i => if i = 58 then v else u i, by kernel_rfl⟩
theorem BaseKE.put59 {o L n B : Nat} (a : Act) (v : Value) (h : BaseKE o L n B a) : BaseKE o L n B (a.put (some 59) v) := by
  obtain ⟨u, rfl⟩ := h
  exact ⟨fun i => if i = 59 then v else u i, by kernel_rfl⟩
theorem BaseKE.put60 {o L n B : Nat} (a : Act) (v : Value) (h : BaseKE o L n B a) : BaseKE o L n B (a.put (some 60) v) := by
  obtain ⟨u, rfl⟩ := h
  exact ⟨fun i => if i = 60 then v else u i, by kernel_rfl⟩
theorem BaseKE.put61 {o L n B : Nat} (a : Act) (v : Value) (h : BaseKE o L n B a) : BaseKE o L n B (a.put (some 61) v) := by
  obtain ⟨u, rfl⟩ := h
  exact ⟨fun i => if i = 61 then v else u i, by kernel_rfl⟩
theorem BaseKE.put62 {o L n B : Nat} (a : Act) (v : Value) (h : BaseKE o L n B a) : BaseKE o L n B (a.put (some 62) v) := by
  obtain ⟨u, rfl⟩ := h
  exact ⟨fun i => if i = 62 then v else u i, by kernel_rfl⟩
theorem BaseKE.put10 {o L n B : Nat} (a : Act) (v : Value) (h : BaseKE o L n B a) : BaseKE o L n B (a.put (some 10) v) := by
  obtain ⟨u, rfl⟩ := h
  exact ⟨fun i => if i = 10 then v else u i, by kernel_rfl⟩

end Go.Proofs.YtjmoecfgpfdncaaDoor

/- Layer 8, the laws: CellKeeps, the last page cut. -/
namespace Go.Proofs.YtjmoecfgpfdncaaDoor
set_option maxRecDepth 100000
open Go.RowKit

/-- what each operation of the region KF1 leaves -/
def vsKF1 (o n B : Nat) : List (Option (Tmp × Value)) :=
  [some (71, .bool true), some (72, .int .i64 82), some (73, .bool true), some (74, .bool false), some (75, .bool false), some (76, .bool true), some (77, .bool true), some (78, .pointer (some ⟨o, 0, none⟩)), some (79, .int .i64 (n : Int)), some (80, .int .i64 ((n : Int) + 1)), some (81, .int .i64 (n : Int)), some (82, .string (pgS n)), some (83, .agg (fv 0 0 0 0)), some (84, .int .i64 80), some (85, .bool false), some (86, .bool false), some (87, .bool false), some (88, .bool false), some (89, .pointer (some ⟨o, 0, none⟩)), some (90, .bool false), some (91, .pointer (some ⟨B, 1, none⟩)), some (92, .int .i64 1), some (93, .bool false), some (94, .bool false), some (95, .bool false), some (96, .bool false), some (97, .pointer (some ⟨o, 0, none⟩)), some (98, .bool true), some (99, .pointer (some ⟨B, 1, none⟩)), some (100, .int .i64 1), some (101, .bool true), some (102, .bool false), some (103, .bool false)]
/-- the frame while the region KF1 runs -/
def BaseKF1 (o L n B : Nat) (a : Act) : Prop := ∃ u : Nat → Value, a = ⟨#[.int .i64 (L : Int), .int .i64 (n : Int), u 2, u 3, u 4, .pointer (some ⟨B, 0, none⟩), u 6, .pointer (some ⟨o, 0, none⟩), u 8, u 9, .int .i64 82, .bool true, u 12, u 13, u 14, u 15, u 16, u 17, u 18, u 19, u 20, u 21, u 22, u 23, u 24, u 25, u 26, u 27, u 28, u 29, u 30, u 31, u 32, u 33, u 34, u 35, u 36, u 37, u 38, u 39, u 40, u 41, u 42, u 43, u 44, u 45, u 46, u 47, u 48, u 49, u 50, u 51, u 52, u 53, u 54, u 55, u 56, u 57, u 58, u 59, u 60, u 61, u 62, u 63, u 64, u 65, u 66, u 67, u 68, u 69, u 70, u 71, u 72, u 73, u 74, u 75, u 76, u 77, u 78, u 79, u 80, u 81, u 82, u 83, u 84, u 85, u 86, u 87, u 88, u 89, u 90, u 91, u 92, u 93, u 94, u 95, u 96, u 97, u 98, u 99, u 100, u 101, u 102, u 103, u 104, u 105, u 106, u 107, u 108, u 109, u 110, u 111, u 112, u 113, u 114, u 115, u 116, u 117, u 118, u 119, u 120, u 121, u 122, u 123, u 124, u 125, u 126, u 127, u 128, u 129, u 130, u 131, u 132, u 133, u 134, u 135, u 136, u 137, u 138, u 139, u 140, u 141, u 142, u 143, u 144, u 145, u 146, u 147, u 148, u 149, u 150, u 151, u 152, u 153, u 154, u 155, u 156, u 157, u 158, u 159, u 160, u 161, u 162, u 163, u 164, u 165, u 166, u 167, u 168, u 169, u 170, u 171, u 172, u 173, u 174, u 175, u 176, u 177, u 178, u 179, u 180], []⟩
theorem BaseKF1.of {o L n B : Nat} (arr : Array Value) (h : arr = #[.int .i64 (L : Int), .int .i64 (n : Int), arr.getD 2 undef, arr.getD 3 undef, arr.getD 4 undef, .pointer (some ⟨B, 0, none⟩), arr.getD 6 undef, .pointer (some ⟨o, 0, none⟩), arr.getD 8 undef, arr.getD 9 undef, .int .i64 82, .bool true, arr.getD 12 undef, arr.getD 13 undef, arr.getD 14 undef, arr.getD 15 undef, arr.getD 16 undef, arr.getD 17 undef, arr.getD 18 undef, arr.getD 19 undef, arr.getD 20 undef, arr.getD 21 undef, arr.getD 22 undef, arr.getD 23 undef, arr.getD 24 undef, arr.getD 25 undef, arr.getD 26 undef, arr.getD 27 undef, arr.getD 28 undef, arr.getD 29 undef, arr.getD 30 undef, arr.getD 31 undef, arr.getD 32 undef, arr.getD 33 undef, arr.getD 34 undef, arr.getD 35 undef, arr.getD 36 undef, arr.getD 37 undef, arr.getD 38 undef, arr.getD 39 undef, arr.getD 40 undef, arr.getD 41 undef, arr.getD 42 undef, arr.getD 43 undef, arr.getD 44 undef, arr.getD 45 undef, arr.getD 46 undef, arr.getD 47 undef, arr.getD 48 undef, arr.getD 49 undef, arr.getD 50 undef, arr.getD 51 undef, arr.getD 52 undef, arr.getD 53 undef, arr.getD 54 undef, arr.getD 55 undef, arr.getD 56 undef, arr.getD 57 undef, arr.getD 58 undef, arr.getD 59 undef, arr.getD 60 undef, arr.getD 61 undef, arr.getD 62 undef, arr.getD 63 undef, arr.getD 64 undef, arr.getD 65 undef, arr.getD 66 undef, arr.getD 67 undef, arr.getD 68 undef, arr.getD 69 undef, arr.getD 70 undef, arr.getD 71 undef, arr.getD 72 undef, arr.getD 73 undef, arr.getD 74 undef, arr.getD 75 undef, arr.getD 76 undef, arr.getD 77 undef, arr.getD 78 undef, arr.getD 79 undef, arr.getD 80 undef, arr.getD 81 undef, arr.getD 82 undef, arr.getD 83 undef, arr.getD 84 undef, arr.getD 85 undef, arr.getD 86 undef, arr.getD 87 undef, arr.getD 88 undef, arr.getD 89 undef, arr.getD 90 undef, arr.getD 91 undef, arr.getD 92 undef, arr.getD 93 undef, arr.getD 94 undef, arr.getD 95 undef, arr.getD 96 undef, arr.getD 97 undef, arr.getD 98 undef, arr.getD 99 undef, arr.getD 100 undef, arr.getD 101 undef, arr.getD 102 undef, arr.getD 103 undef, arr.getD 104 undef, arr.getD 105 undef, arr.getD 106 undef, arr.getD 107 undef, arr.getD 108 undef, arr.getD 109 undef, arr.getD 110 undef, arr.getD 111 undef, arr.getD 112 undef, arr.getD 113 undef, arr.getD 114 undef, arr.getD 115 undef, arr.getD 116 undef, arr.getD 117 undef, arr.getD 118 undef, arr.getD 119 undef, arr.getD 120 undef, arr.getD 121 undef, arr.getD 122 undef, arr.getD 123 undef, arr.getD 124 undef, arr.getD 125 undef, arr.getD 126 undef, arr.getD 127 undef, arr.getD 128 undef, arr.getD 129 undef, arr.getD 130 undef, arr.getD 131 undef, arr.getD 132 undef, arr.getD 133 undef, arr.getD 134 undef, arr.getD 135 undef, arr.getD 136 undef, arr.getD 137 undef, arr.getD 138 undef, arr.getD 139 undef, arr.getD 140 undef, arr.getD 141 undef, arr.getD 142 undef, arr.getD 143 undef, arr.getD 144 undef, arr.getD 145 undef, arr.getD 146 undef, arr.getD 147 undef, arr.getD 148 undef, arr.getD 149 undef, arr.getD 150 undef, arr.getD 151 undef, arr.getD 152 undef, arr.getD 153 undef, arr.getD 154 undef, arr.getD 155 undef, arr.getD 156 undef, arr.getD 157 undef, arr.getD 158 undef, arr.getD 159 undef, arr.getD 160 undef, arr.getD 161 undef, arr.getD 162 undef, arr.getD 163 undef, arr.getD 164 undef, arr.getD 165 undef, arr.getD 166 undef, arr.getD 167 undef, arr.getD 168 undef, arr.getD 169 undef, arr.getD 170 undef, arr.getD 171 undef, arr.getD 172 undef, arr.getD 173 undef, arr.getD 174 undef, arr.getD 175 undef, arr.getD 176 undef, arr.getD 177 undef, arr.getD 178 undef, arr.getD 179 undef, arr.getD 180 undef]) : BaseKF1 o L n B ⟨arr, []⟩ := ⟨fun i => arr.getD i undef, by rw [← h]⟩
theorem BaseKF1.put71 {o L n B : Nat} (a : Act) (v : Value) (h : BaseKF1 o L n B a) : BaseKF1 o L n B (a.put (some 71) v) := by
  obtain ⟨u, rfl⟩ := h
  exact ⟨fun i => if i = 71 then v else u i, by kernel_rfl⟩
theorem BaseKF1.put72 {o L n B : Nat} (a : Act) (v : Value) (h : BaseKF1 o L n B a) : BaseKF1 o L n B (a.put (some 72) v) := by
  obtain ⟨u, rfl⟩ := h
  exact ⟨fun i => if i = 72 then v else u i, by kernel_rfl⟩
theorem BaseKF1.put73 {o L n B : Nat} (a : Act) (v : Value) (h : BaseKF1 o L n B a) : BaseKF1 o L n B (a.put (some 73) v) := by
  obtain ⟨u, rfl⟩ := h
  exact ⟨fun i => if i = 73 then v else u i, by kernel_rfl⟩
theorem BaseKF1.put74 {o L n B : Nat} (a : Act) (v : Value) (h : BaseKF1 o L n B a) : BaseKF1 o L n B (a.put (some 74) v) := by
  obtain ⟨u, rfl⟩ := h
  exact ⟨fun i => if i = 74 then v else u i, by kernel_rfl⟩
theorem BaseKF1.put75 {o L n B : Nat} (a : Act) (v : Value) (h : BaseKF1 o L n B a) : BaseKF1 o L n B (a.put (some 75) v) := by
  obtain ⟨u, rfl⟩ := h
  exact ⟨fun i => if i = 75 then v else u i, by kernel_rfl⟩
theorem BaseKF1.put76 {o L n B : Nat} (a : Act) (v : Value) (h : BaseKF1 o L n B a) : BaseKF1 o L n B (a.put (some 76) v) := by
  obtain ⟨u, rfl⟩ := h
  exact ⟨fun i => if i = 76 then v else u i, by kernel_rfl⟩
theorem BaseKF1.put77 {o L n B : Nat} (a : Act) (v : Value) (h : BaseKF1 o L n B a) : BaseKF1 o L n B (a.put (some 77) v) := by
  obtain ⟨u, rfl⟩ := h
  exact ⟨fun i => if i = 77 then v else u i, by kernel_rfl⟩
theorem BaseKF1.put78 {o L n B : Nat} (a : Act) (v : Value) (h : BaseKF1 o L n B a) : BaseKF1 o L n B (a.put (some 78) v) := by
  obtain ⟨u, rfl⟩ := h
  exact ⟨fun i => if i = 78 then v else u i, by kernel_rfl⟩
theorem BaseKF1.put79 {o L n B : Nat} (a : Act) (v : Value) (h : BaseKF1 o L n B a) : BaseKF1 o L n B (a.put (some 79) v) := by
  obtain ⟨u, rfl⟩ := h
  exact ⟨fun i => if i = 79 then v else u i, by kernel_rfl⟩
theorem BaseKF1.put80 {o L n B : Nat} (a : Act) (v : Value) (h : BaseKF1 o L n B a) : BaseKF1 o L n B (a.put (some 80) v) := by
  obtain ⟨u, rfl⟩ := h
  exact ⟨fun i => if i = 80 then v else u i, by kernel_rfl⟩
theorem BaseKF1.put81 {o L n B : Nat} (a : Act) (v : Value) (h : BaseKF1 o L n B a) : BaseKF1 o L n B (a.put (some 81) v) := by
  obtain ⟨u, rfl⟩ := h
  exact ⟨fun i => if i = 81 then v else u i, by kernel_rfl⟩
theorem BaseKF1.put82 {o L n B : Nat} (a : Act) (v : Value) (h : BaseKF1 o L n B a) : BaseKF1 o L n B (a.put (some 82) v) := by
  obtain ⟨u, rfl⟩ := h
  exact ⟨fun i => if i = 82 then v else u i, by kernel_rfl⟩
theorem BaseKF1.put83 {o L n B : Nat} (a : Act) (v : Value) (h : BaseKF1 o L n B a) : BaseKF1 o L n B (a.put (some 83) v) := by
  obtain ⟨u, rfl⟩ := h
  exact ⟨fun i => if i = 83 then v else u i, by kernel_rfl⟩
theorem BaseKF1.put84 {o L n B : Nat} (a : Act) (v : Value) (h : BaseKF1 o L n B a) : BaseKF1 o L n B (a.put (some 84) v) := by
  obtain ⟨u, rfl⟩ := h
  exact ⟨fun i => if i = 84 then v else u i, by kernel_rfl⟩
theorem BaseKF1.put85 {o L n B : Nat} (a : Act) (v : Value) (h : BaseKF1 o L n B a) : BaseKF1 o L n B (a.put (some 85) v) := by
  obtain ⟨u, rfl⟩ := h
  exact ⟨fun i => if i = 85 then v else u i, by kernel_rfl⟩
theorem BaseKF1.put86 {o L n B : Nat} (a : Act) (v : Value) (h : BaseKF1 o L n B a) : BaseKF1 o L n B (a.put (some 86) v) := by
  obtain ⟨u, rfl⟩ := h
  exact ⟨fun i => if i = 86 then v else u i, by kernel_rfl⟩
theorem BaseKF1.put87 {o L n B : Nat} (a : Act) (v : Value) (h : BaseKF1 o L n B a) : BaseKF1 o L n B (a.put (some 87) v) := by
  obtain ⟨u, rfl⟩ := h
  exact ⟨fun i => if i = 87 then v else u i, by kernel_rfl⟩
theorem BaseKF1.put88 {o L n B : Nat} (a : Act) (v : Value) (h : BaseKF1 o L n B a) : BaseKF1 o L n B (a.put (some 88) v) := by
  obtain ⟨u, rfl⟩ := h
  exact ⟨fun i => if i = 88 then v else u i, by kernel_rfl⟩
theorem BaseKF1.put89 {o L n B : Nat} (a : Act) (v : Value) (h : BaseKF1 o L n B a) : BaseKF1 o L n B (a.put (some 89) v) := by
  obtain ⟨u, rfl⟩ := h
  exact ⟨fun i => if i = 89 then v else u i, by kernel_rfl⟩
theorem BaseKF1.put90 {o L n B : Nat} (a : Act) (v : Value) (h : BaseKF1 o L n B a) : BaseKF1 o L n B (a.put (some 90) v) := by
  obtain ⟨u, rfl⟩ := h
  exact ⟨fun i => if i = 90 then v else u i, by kernel_rfl⟩
theorem BaseKF1.put91 {o L n B : Nat} (a : Act) (v : Value) (h : BaseKF1 o L n B a) : BaseKF1 o L n B (a.put (some 91) v) := by
  obtain ⟨u, rfl⟩ := h
  exact ⟨fun i => if i = 91 then v else u i, by kernel_rfl⟩
theorem BaseKF1.put92 {o L n B : Nat} (a : Act) (v : Value) (h : BaseKF1 o L n B a) : BaseKF1 o L n B (a.put (some 92) v) := by
  obtain ⟨u, rfl⟩ := h
  exact ⟨fun i => if i = 92 then v else u i, by kernel_rfl⟩
theorem BaseKF1.put93 {o L n B : Nat} (a : Act) (v : Value) (h : BaseKF1 o L n B a) : BaseKF1 o L n B (a.put (some 93) v) := by
  obtain ⟨u, rfl⟩ := h
  exact ⟨fun i => if i = 93 then v else u i, by kernel_rfl⟩
theorem BaseKF1.put94 {o L n B : Nat} (a : Act) (v : Value) (h : BaseKF1 o L n B a) : BaseKF1 o L n B (a.put (some 94) v) := by
  obtain ⟨u, rfl⟩ := h
  exact ⟨fun i => if i = 94 then v else u i, by kernel_rfl⟩
theorem BaseKF1.put95 {o L n B : Nat} (a : Act) (v : Value) (h : BaseKF1 o L n B a) : BaseKF1 o L n B (a.put (some 95) v) := by
  obtain ⟨u, rfl⟩ := h
  exact ⟨fun i => if i = 95 then v else u i, by kernel_rfl⟩
theorem BaseKF1.put96 {o L n B : Nat} (a : Act) (v : Value) (h : BaseKF1 o L n B a) : BaseKF1 o L n B (a.put (some 96) v) := by
  obtain ⟨u, rfl⟩ := h
  exact ⟨fun i => if i = 96 then v else u i, by kernel_rfl⟩
theorem BaseKF1.put97 {o L n B : Nat} (a : Act) (v : Value) (h : BaseKF1 o L n B a) : BaseKF1 o L n B (a.put (some 97) v) := by
  obtain ⟨u, rfl⟩ := h
  exact ⟨fun i => if i = 97 then v else u i, by kernel_rfl⟩
theorem BaseKF1.put98 {o L n B : Nat} (a : Act) (v : Value) (h : BaseKF1 o L n B a) : BaseKF1 o L n B (a.put (some 98) v) := by
  obtain ⟨u, rfl⟩ := h
  exact ⟨fun i => if i = 98 then v else u i, by kernel_rfl⟩
theorem BaseKF1.put99 {o L n B : Nat} (a : Act) (v : Value) (h : BaseKF1 o L n B a) : BaseKF1 o L n B (a.put (some 99) v) := by
  obtain ⟨u, rfl⟩ := h
  exact ⟨fun i => if i = 99 then v else u i, by kernel_rfl⟩
theorem BaseKF1.put100 {o L n B : Nat} (a : Act) (v : Value) (h : BaseKF1 o L n B a) : BaseKF1 o L n B (a.put (some 100) v) := by
  obtain ⟨u, rfl⟩ := h
  exact ⟨fun i => if i = 100 then v else u i, by kernel_rfl⟩
theorem BaseKF1.put101 {o L n B : Nat} (a : Act) (v : Value) (h : BaseKF1 o L n B a) : BaseKF1 o L n B (a.put (some 101) v) := by
  obtain ⟨u, rfl⟩ := h
  exact ⟨fun i => if i = 101 then v else u i, by kernel_rfl⟩
theorem BaseKF1.put102 {o L n B : Nat} (a : Act) (v : Value) (h : BaseKF1 o L n B a) : BaseKF1 o L n B (a.put (some 102) v) := by
  obtain ⟨u, rfl⟩ := h
  exact ⟨fun i => if i = 102 then v else u i, by kernel_rfl⟩
theorem BaseKF1.put103 {o L n B : Nat} (a : Act) (v : Value) (h : BaseKF1 o L n B a) : BaseKF1 o L n B (a.put (some 103) v) := by
  obtain ⟨u, rfl⟩ := h
  exact ⟨fun i => if i = 103 then v else u i, by kernel_rfl⟩

set_option maxHeartbeats 40000000 in
theorem walk_CellKeeps1 (ln nn : Int) (x k a b : Int) (HK0 : Hid (k = 1)) (_ : (Lit.int .i64 ln).wf = true) (_ : (Lit.int .i64 nn).wf = true) (w : World) (hT : Tabs w) :
    Calls Tryd.prog 3 #[.int .i64 ln, .int .i64 nn, .agg (fv x k a b)] w fun e w' => e = .returned (.bool true) ∧ Below w.heap.size w w' := by
  obtain ⟨w1, hw1⟩ : ∃ w1, w.alloc (.cells (fv x k a b) 23) = w1 := ⟨_, rfl⟩
  have hb1 : Below w.heap.size w w1 := by rw [← hw1]; exact (Below.refl _ _).alloc (Nat.le_refl _) _
  have hk1 : Blk w1 w.heap.size (fv x k a b) 23 := by rw [← hw1]; exact Blk.new w _ _
  have HTB : Hid (∀ w', Below w1.heap.size w1 w' → Tabs w') := fun w' hb => (hT.after hb1).after hb
  have HBX : Hid (∀ w', Below w1.heap.size w1 w' → Blk w' w.heap.size (fv x k a b) 23) := fun w' hb => hk1.after hb
  have HB1 := Lib.hid hb1
  have HW1 := Lib.hid hw1
  clear hT hb1 hk1 hw1
  go_enter Tryd.func3, Tryd.ntmps3
  go_wp2_with fail
  change Calls _ _ _ (w.alloc (.cells (fv x k a b) 23)) _
  rw [HW1.out]
  refine (ce_works _ (HTB.out _ (Below.refl _ _))).mono ?_
  rintro e w2 ⟨rfl, hb2⟩
  have HB2 : Hid (Below w1.heap.size w1 w2) := hb2
  clear hb2
  have hcc : ln < 1 ∨ (¬ ln < 1 ∧ 20 < ln) ∨ (¬ ln < 1 ∧ ¬ 20 < ln ∧ nn < 0) ∨ (¬ ln < 1 ∧ ¬ 20 < ln ∧ ¬ nn < 0 ∧ ln ≤ nn) ∨ (¬ ln < 1 ∧ ¬ 20 < ln ∧ ¬ nn < 0 ∧ ¬ ln ≤ nn) := by omega
  rcases hcc with hc1 | ⟨hc1, hc2⟩ | ⟨hc1, hc2, hc3⟩ | ⟨hc1, hc2, hc3, hc4⟩ | ⟨hc1, hc2, hc3, hc4⟩
  · go_wp2_with fail
    go_ret
    exact ⟨rfl, HB1.out.trans (HB2.out.mono HB1.out.size)⟩
  · go_wp2_with fail
    go_ret
    exact ⟨rfl, HB1.out.trans (HB2.out.mono HB1.out.size)⟩
  · go_wp2_with fail
    go_ret
    exact ⟨rfl, HB1.out.trans (HB2.out.mono HB1.out.size)⟩
  · go_wp2_with fail
    go_ret
    exact ⟨rfl, HB1.out.trans (HB2.out.mono HB1.out.size)⟩
  · obtain ⟨L, rfl⟩ : ∃ L : Nat, ln = L := ⟨ln.toNat, by omega⟩
    obtain ⟨n, rfl⟩ : ∃ n : Nat, nn = n := ⟨nn.toNat, by omega⟩
    have HN : Hid (n < L ∧ L ≤ 20) := ⟨by omega, by omega⟩
    have hl20 : L ≤ 20 := by omega
    have hnL : n < L := by omega
    go_wp2_with fail
    refine (ce_new (L : Nat) 8 _).mono ?_
    rintro e w3 ⟨hy, _, hb3⟩
    obtain ⟨o, F, rfl, hc, hF⟩ := hy ⟨⟨by omega, by omega⟩, by decide, ⟨by decide, by decide, by decide⟩⟩
    have hnn : newSt (L : Int).toNat (8 : Int).toNat = newSt L 8 := by simp
    rw [hnn] at hc
    have E2 : Hid (EX w1 o F (newSt L 8) w3) := ⟨hc, fun kk hkk => Nat.le_trans HB2.out.size (hF kk hkk), HB2.out.trans (hb3.mono HB2.out.size)⟩
    have HZ : Hid (KPs L 0 (newSt L 8)) := KPs.zero L (by omega) (by omega)
    clear hy hc hF hb3 hnn HB2
    go_wp2_with fail
    go_loopw [46] (fun iv wr => ∃ i : Nat, i ≤ n ∧ iv = .int .i64 i ∧ ∃ F s, KPs L i s ∧ EX w1 o F s wr) (fun iv _ => n - (intOf iv).toNat)
    case atStart => exact ⟨0, by omega, rfl, F, newSt L 8, HZ.out, E2.out⟩
    case round =>
      obtain ⟨i, hi, rfl, F, s, hks, hex⟩ := hrel
      have HKS := Lib.hid hks
      have ER := Lib.hid hex
      clear hks hex E2 HZ
      by_cases hlt : i < n
      · go_wp2_with fail
        refine (ce_pageOf i _ (by omega) (HTB.out _ ER.out.low)).mono ?_
        rintro e w4 ⟨rfl, hb4⟩
        have E4 := Lib.hid (ER.out.after hb4)
        have hnx := HKS.out.next (by omega : i < L)
        have HNX := Lib.hid hnx
        clear hb4 ER hnx
        go_wp2_with fail
        refine (ce_prog o F s (i : Nat) (pgS i) 0 0 0 0 _ HKS.out.wf E4.out.cell (pgS_le i)).mono ?_
        rintro e w5 ⟨rfl, ⟨F2, hc, hg⟩, ho⟩
        have E5 := Lib.hid (E4.out.act hc hg ho)
        rw [HNX.out.2]
        clear hc hg ho E4
        go_wp2_with fail
        go_roundw
        case rel => exact ⟨i + 1, by omega, by go_num, F2, _, HNX.out.1, E5.out⟩
        case measure => simp [intOf]; omega
      · have hin : n = i := by omega
        subst hin
        obtain ⟨hkt, hec⟩ := HKS.out.ends hnL k a b
        have HWS : Hid (WfSt s) := HKS.out.wf
        obtain ⟨t, ht⟩ : ∃ t, progSt s (n : Nat) (pgS n) k a b = t := ⟨_, rfl⟩
        rw [ht] at hkt
        have HST := Lib.hid ht
        have HKT := Lib.hid hkt
        have HWT : Hid (WfSt t) := hkt.wf
        have HBT : Hid (t.bad = (k == 2) ∧ t.torn = (k == 1)) := ⟨hkt.bad, hkt.torn⟩
        have E0 := ER
        obtain ⟨ec, hec2⟩ : ∃ ec, endC k = ec := ⟨_, rfl⟩
        rw [hec2] at hec
        have HEC := Lib.hid hec
        have HEE := Lib.hid hec2
        clear ht hkt hec hec2 HKS
        go_wp2_with fail
        rename_i K0 hK0
        refine wp_region_list5 5 (fun i => i == 6) (SV2 (vsKE o n x k a b ec) (fun j => if j = 5 then [62] else [])) (BaseKE o L n w.heap.size) (EX w1 o F s) (fun w2 w3 => (∃ F2, EX w1 o F2 t w2) → ∃ F2, EX w1 o F2 t w3) (RV (vsKE o n x k a b ec) (SpKE w1 o t ec)) rfl (by decide) (by kernel_rfl) (by kernel_rfl) (RV.ext2 (SpKE.ext w1 o t ec)) ?_ (E0.out.after (Below.refl _ _).drew) (BaseKE.of _ (by kernel_rfl)) ?_ ?_
        · exact ⟨BaseKE.put57, BaseKE.put58, BaseKE.put59, BaseKE.put60, BaseKE.put61, BaseKE.put62, BaseKE.put10, trivial⟩
        · refine ⟨?_, ?_, ?_, ?_, ?_, ?_, ?_, trivial⟩
          all_goals
            intro a w' hC hB hR
            obtain ⟨u, rfl⟩ := hB
            have HC := Lib.hid hC
            clear hC
            clear hK0
          · clear hR
            refine if_yes (by kernel_rfl) ?_
            unfold Oper.wp
            go_simp
            exact ⟨.pointer (some ⟨o, 0, none⟩), rfl, (by first | exact fun _ _ => HC.out rfl | exact HC.out rfl | trivial | exact fun _ h => absurd h (by decide)), (by first | exact fun h => h | exact fun F3 h => ⟨F3, h⟩), rfl⟩
          · clear hR
            refine if_yes (by kernel_rfl) ?_
            unfold Oper.wp
            go_simp
            exact ⟨.int .i64 (n : Int), rfl, (by first | exact fun _ _ => HC.out rfl | exact HC.out rfl | trivial | exact fun _ h => absurd h (by decide)), (by first | exact fun h => h | exact fun F3 h => ⟨F3, h⟩), rfl⟩
          · clear hR
            refine if_yes (by kernel_rfl) ?_
            unfold Oper.wp
            go_simp
            exact ⟨.int .i64 (n : Int), rfl, (by first | exact fun _ _ => HC.out rfl | exact HC.out rfl | trivial | exact fun _ h => absurd h (by decide)), (by first | exact fun h => h | exact fun F3 h => ⟨F3, h⟩), rfl⟩
          · have h59 : u 59 = .int .i64 (n : Int) := hR ⟨2, .data⟩ (by simp) rfl
            clear hR
            simp only [h59]
            clear h59
            refine if_yes (by kernel_rfl) ?_
            unfold Oper.wp
            go_simp
            have hc := HC.out rfl
            refine (ce_pageOf n _ (by have := HN.out; omega) (HTB.out _ hc.low)).mono ?_
            rintro e w2 ⟨rfl, hb2⟩
            exact ⟨.string (pgS n), rfl, (by first | exact fun _ _ => hc.after hb2 | exact hc.after hb2), (by first | exact fun h => h.elim fun F2 h2 => ⟨F2, h2.after hb2⟩ | exact fun F2 h2 => ⟨F2, h2.after hb2⟩), rfl⟩
          · clear hR
            refine if_yes (by kernel_rfl) ?_
            exact wp_load_row 23 (.tmp 5) rfl w.heap.size rfl 23 (fv x k a b) (0, 0) _ (HBX.out _ (HC.out rfl).low) Tryd.underlying23 rfl size_fault ⟨.agg (fv x k a b), rfl, (by first | exact fun _ _ => HC.out rfl | exact HC.out rfl | trivial | exact fun _ h => absurd h (by decide)), (by first | exact fun h => h | exact fun F3 h => ⟨F3, h⟩), rfl⟩
          · have h57 : u 57 = .pointer (some ⟨o, 0, none⟩) := hR ⟨0, .data⟩ (by simp) rfl
            have h58 : u 58 = .int .i64 (n : Int) := hR ⟨1, .data⟩ (by simp) rfl
            have h60 : u 60 = .string (pgS n) := hR ⟨3, .data⟩ (by simp) rfl
            have h61 : u 61 = .agg (fv x k a b) := hR ⟨4, .data⟩ (by simp) rfl
            clear hR
            simp only [h57, h58, h60, h61]
            clear h57 h58 h60 h61
            refine if_yes (by kernel_rfl) ?_
            unfold Oper.wp
            go_simp
            have hc := HC.out rfl
            refine (ce_prog o F s (n : Int) (pgS n) x k a b _ HWS.out hc.cell (pgS_le n)).mono ?_
            rintro e w2 ⟨rfl, ⟨F2, hc2, hg2⟩, ho2⟩
            rw [HST.out] at hc2
            rw [HEC.out]
            have hx := hc.act hc2 hg2 ho2
            exact ⟨.int .i64 ec, rfl, (by first | trivial | exact fun h => absurd rfl h), (by first | exact fun _ => ⟨F2, hx⟩ | exact fun _ _ => ⟨F2, hx⟩), ⟨fun _ => ⟨rfl, F2, hx⟩⟩⟩
          · obtain ⟨hv, _⟩ := (hR ⟨5, .data⟩ (by simp) rfl).one rfl
            have hv : u 62 = .int .i64 ec := hv
            simp only [hv]
            clear hR
            refine if_yes (by kernel_rfl) ?_
            unfold Oper.wp
            go_simp
            exact ⟨.int .i64 ec, rfl, (by first | exact fun _ _ => HC.out rfl | exact HC.out rfl | trivial | exact fun _ h => absurd h (by decide)), (by first | exact fun h => h | exact fun F3 h => ⟨F3, h⟩), rfl⟩
        · intro a' w' hB hR
          have h62 := (hR 5 (by decide)).one rfl
          have h10 := hR 6 (by decide)
          obtain ⟨u, rfl⟩ := hB
          have h10 : u 10 = .int .i64 ec := h10
          have HZX := Lib.hid h62.2
          simp only [h10]
          clear hR h62 h10 E0 ER HST HEC HWS
          obtain rfl : k = 1 := HK0.out
          obtain rfl : ec = 82 := HEE.out.symm.trans rfl
          have HBT : Hid (t.bad = false ∧ t.torn = true) := HBT.out
          have HNO : Hid (progSt t ((n : Int) + 1) (pgS n) 0 0 0 = t ∧ progC t ((n : Int) + 1) (pgS n) 0 = 80) := HKT.out.no rfl _ _
          have hq1 : w'.cell? ⟨w.heap.size, 1, none⟩ = some (.int .i64 1) := by
            obtain ⟨F9, hx9⟩ := HZX.out
            exact (HBX.out _ hx9.low).cell 1
          clear HEE
          go_wp2_with fail
          have HZ0 : Hid (∃ F2, EX w1 o F2 t w'.drew) := by
            obtain ⟨F9, hx9⟩ := HZX.out
            exact ⟨F9, hx9.after (Below.refl _ _).drew⟩
          clear hq1 HZX
          rename_i K0 hK0
          refine wp_region_list3 (SV (vsKF1 o n w.heap.size) []) (BaseKF1 o L n w.heap.size) (fun w2 => ∃ F2, EX w1 o F2 t w2) (fun _ _ => True) (RV (vsKF1 o n w.heap.size) (fun _ _ _ => False)) rfl (by kernel_rfl) (RV.ext no_specialU) ?_ (HZ0.out) (BaseKF1.of _ (by kernel_rfl)) ?_ ?_
          · exact ⟨BaseKF1.put71, BaseKF1.put72, BaseKF1.put73, BaseKF1.put74, BaseKF1.put75, BaseKF1.put76, BaseKF1.put77, BaseKF1.put78, BaseKF1.put79, BaseKF1.put80, BaseKF1.put81, BaseKF1.put82, BaseKF1.put83, BaseKF1.put84, BaseKF1.put85, BaseKF1.put86, BaseKF1.put87, BaseKF1.put88, BaseKF1.put89, BaseKF1.put90, BaseKF1.put91, BaseKF1.put92, BaseKF1.put93, BaseKF1.put94, BaseKF1.put95, BaseKF1.put96, BaseKF1.put97, BaseKF1.put98, BaseKF1.put99, BaseKF1.put100, BaseKF1.put101, BaseKF1.put102, BaseKF1.put103, trivial⟩
          · refine ⟨?_, ?_, ?_, ?_, ?_, ?_, ?_, ?_, ?_, ?_, ?_, ?_, ?_, ?_, ?_, ?_, ?_, ?_, ?_, ?_, ?_, ?_, ?_, ?_, ?_, ?_, ?_, ?_, ?_, ?_, ?_, ?_, ?_, trivial⟩
            all_goals
              intro a w' hC hB hR
              obtain ⟨u, rfl⟩ := hB
              have HC := Lib.hid hC
              clear hC
              clear hK0
            · clear hR
              refine if_yes (by kernel_rfl) ?_
              unfold Oper.wp
              go_simp
              exact ⟨.bool true, rfl, HC.out, trivial, rfl⟩
            · clear hR
              refine if_yes (by kernel_rfl) ?_
              unfold Oper.wp
              go_simp
              exact ⟨.int .i64 82, rfl, HC.out, trivial, rfl⟩
            · have h72 : u 72 = .int .i64 82 := hR ⟨1, .data⟩ (by simp) rfl
              clear hR
              simp only [h72]
              clear h72
              refine if_yes (by kernel_rfl) ?_
              unfold Oper.wp
              go_simp
              exact ⟨.bool true, rfl, HC.out, trivial, rfl⟩
            · have h71 : u 71 = .bool true := hR ⟨0, .data⟩ (by simp) rfl
              have h73 : u 73 = .bool true := hR ⟨2, .data⟩ (by simp) rfl
              clear hR
              simp only [h71, h73]
              clear h71 h73
              refine if_yes (by kernel_rfl) ?_
              unfold Oper.wp
              go_simp
              exact ⟨.bool false, rfl, HC.out, trivial, rfl⟩
            · have h74 : u 74 = .bool false := hR ⟨3, .data⟩ (by simp) rfl
              clear hR
              simp only [h74]
              clear h74
              refine if_yes (by kernel_rfl) ?_
              unfold Oper.wp
              go_simp
              exact ⟨.bool false, rfl, HC.out, trivial, rfl⟩
            · have g75 : u 75 = .bool false := hR ⟨4, .guard⟩ (by simp) rfl
              clear hR
              simp only [g75]
              clear g75
              refine if_yes (by kernel_rfl) ?_
              unfold Oper.wp
              go_simp
              exact ⟨.bool true, rfl, HC.out, trivial, rfl⟩
            · have g75 : u 75 = .bool false := hR ⟨4, .guard⟩ (by simp) rfl
              have h76 : u 76 = .bool true := hR ⟨5, .data⟩ (by simp) rfl
              clear hR
              simp only [g75, h76]
              clear g75 h76
              refine if_yes (by kernel_rfl) ?_
              unfold Oper.wp
              go_simp
              exact ⟨.bool true, rfl, HC.out, trivial, rfl⟩
            · have g77 : u 77 = .bool true := hR ⟨6, .guard⟩ (by simp) rfl
              clear hR
              simp only [g77]
              clear g77
              refine if_yes (by kernel_rfl) ?_
              unfold Oper.wp
              go_simp
              exact ⟨.pointer (some ⟨o, 0, none⟩), rfl, HC.out, trivial, rfl⟩
            · have g77 : u 77 = .bool true := hR ⟨6, .guard⟩ (by simp) rfl
              clear hR
              simp only [g77]
              clear g77
              refine if_yes (by kernel_rfl) ?_
              unfold Oper.wp
              go_simp
              exact ⟨.int .i64 (n : Int), rfl, HC.out, trivial, rfl⟩
            · have g77 : u 77 = .bool true := hR ⟨6, .guard⟩ (by simp) rfl
              have h79 : u 79 = .int .i64 (n : Int) := hR ⟨8, .data⟩ (by simp) rfl
              have hf := HN.out
              have hw : IntKind.i64.wrap ((n : Int) + 1) = (n : Int) + 1 := by rw [IntKind.wrap_i64]; omega
              clear hf
              clear hR
              simp only [g77, h79]
              clear g77 h79
              refine if_yes (by kernel_rfl) ?_
              unfold Oper.wp
              go_simp
              exact ⟨.int .i64 ((n : Int) + 1), rfl, HC.out, trivial, rfl⟩
            · have g77 : u 77 = .bool true := hR ⟨6, .guard⟩ (by simp) rfl
              clear hR
              simp only [g77]
              clear g77
              refine if_yes (by kernel_rfl) ?_
              unfold Oper.wp
              go_simp
              exact ⟨.int .i64 (n : Int), rfl, HC.out, trivial, rfl⟩
            · have g77 : u 77 = .bool true := hR ⟨6, .guard⟩ (by simp) rfl
              have h81 : u 81 = .int .i64 (n : Int) := hR ⟨10, .data⟩ (by simp) rfl
              clear hR
              simp only [g77, h81]
              clear g77 h81
              refine if_yes (by kernel_rfl) ?_
              unfold Oper.wp
              go_simp
              obtain ⟨F9, hx9⟩ := HC.out
              refine (ce_pageOf n _ (by have := HN.out; omega) (HTB.out _ hx9.low)).mono ?_
              rintro e w2 ⟨rfl, hb2⟩
              exact ⟨.string (pgS n), rfl, ⟨F9, hx9.after hb2⟩, trivial, rfl⟩
            · have g77 : u 77 = .bool true := hR ⟨6, .guard⟩ (by simp) rfl
              clear hR
              simp only [g77]
              clear g77
              refine if_yes (by kernel_rfl) ?_
              unfold Oper.wp
              go_simp
              exact ⟨.agg (fv 0 0 0 0), rfl, HC.out, trivial, rfl⟩
            · have g77 : u 77 = .bool true := hR ⟨6, .guard⟩ (by simp) rfl
              have h78 : u 78 = .pointer (some ⟨o, 0, none⟩) := hR ⟨7, .data⟩ (by simp) rfl
              have h80 : u 80 = .int .i64 ((n : Int) + 1) := hR ⟨9, .data⟩ (by simp) rfl
              have h82 : u 82 = .string (pgS n) := hR ⟨11, .data⟩ (by simp) rfl
              have h83 : u 83 = .agg (fv 0 0 0 0) := hR ⟨12, .data⟩ (by simp) rfl
              clear hR
              simp only [g77, h78, h80, h82, h83]
              clear g77 h78 h80 h82 h83
              refine if_yes (by kernel_rfl) ?_
              unfold Oper.wp
              go_simp
              obtain ⟨F9, hx9⟩ := HC.out
              refine (ce_prog o F9 t ((n : Int) + 1) (pgS n) 0 0 0 0 _ HWT.out hx9.cell (pgS_le n)).mono ?_
              rintro e w2 ⟨rfl, ⟨F2, hc2, hg2⟩, ho2⟩
              rw [HNO.out.1] at hc2
              rw [HNO.out.2]
              exact ⟨.int .i64 80, rfl, ⟨F2, hx9.act hc2 hg2 ho2⟩, trivial, rfl⟩
            · have g77 : u 77 = .bool true := hR ⟨6, .guard⟩ (by simp) rfl
              have h84 : u 84 = .int .i64 80 := hR ⟨13, .data⟩ (by simp) rfl
              clear hR
              simp only [g77, h84]
              clear g77 h84
              refine if_yes (by kernel_rfl) ?_
              unfold Oper.wp
              go_simp
              exact ⟨.bool false, rfl, HC.out, trivial, rfl⟩
            · have g75 : u 75 = .bool false := hR ⟨4, .guard⟩ (by simp) rfl
              have h77 : u 77 = .bool true := hR ⟨6, .data⟩ (by simp) rfl
              have h85 : u 85 = .bool false := hR ⟨14, .data⟩ (by simp) rfl
              clear hR
              simp only [g75, h77, h85]
              clear g75 h77 h85
              refine if_yes (by kernel_rfl) ?_
              unfold Oper.wp
              go_simp
              exact ⟨.bool false, rfl, HC.out, trivial, rfl⟩
            · have h75 : u 75 = .bool false := hR ⟨4, .data⟩ (by simp) rfl
              have h86 : u 86 = .bool false := hR ⟨15, .data⟩ (by simp) rfl
              clear hR
              simp only [h75, h86]
              clear h75 h86
              refine if_yes (by kernel_rfl) ?_
              unfold Oper.wp
              go_simp
              exact ⟨.bool false, rfl, HC.out, trivial, rfl⟩
            · have h87 : u 87 = .bool false := hR ⟨16, .data⟩ (by simp) rfl
              clear hR
              simp only [h87]
              clear h87
              refine if_yes (by kernel_rfl) ?_
              unfold Oper.wp
              go_simp
              exact ⟨.bool false, rfl, HC.out, trivial, rfl⟩
            · have g88 : u 88 = .bool false := hR ⟨17, .guard⟩ (by simp) rfl
              clear hR
              simp only [g88]
              clear g88
              refine if_yes (by kernel_rfl) ?_
              unfold Oper.wp
              go_simp
              exact ⟨.pointer (some ⟨o, 0, none⟩), rfl, HC.out, trivial, rfl⟩
            · have g88 : u 88 = .bool false := hR ⟨17, .guard⟩ (by simp) rfl
              have h89 : u 89 = .pointer (some ⟨o, 0, none⟩) := hR ⟨18, .data⟩ (by simp) rfl
              clear hR
              simp only [g88, h89]
              clear g88 h89
              refine if_yes (by kernel_rfl) ?_
              unfold Oper.wp
              go_simp
              obtain ⟨F9, hx9⟩ := HC.out
              refine (ce_bad o F9 t _ HWT.out hx9.cell).mono ?_
              rintro e w2 ⟨rfl, rfl⟩
              rw [HBT.out.1]
              exact ⟨.bool false, rfl, ⟨F9, hx9⟩, trivial, rfl⟩
            · have g88 : u 88 = .bool false := hR ⟨17, .guard⟩ (by simp) rfl
              clear hR
              simp only [g88]
              clear g88
              refine if_yes (by kernel_rfl) ?_
              unfold Oper.wp
              go_simp
              exact ⟨.pointer (some ⟨w.heap.size, 1, none⟩), rfl, HC.out, trivial, rfl⟩
            · have g88 : u 88 = .bool false := hR ⟨17, .guard⟩ (by simp) rfl
              have h91 : u 91 = .pointer (some ⟨w.heap.size, 1, none⟩) := hR ⟨20, .data⟩ (by simp) rfl
              obtain ⟨F9, hx9⟩ := HC.out
              have hc : w'.cell? ⟨w.heap.size, 1, none⟩ = some (.int .i64 1) := (HBX.out _ hx9.low).cell 1
              clear hR
              simp only [g88, h91]
              clear g88 h91
              refine if_yes (by kernel_rfl) ?_
              unfold Oper.wp
              go_simp
              exact ⟨.int .i64 1, rfl, HC.out, trivial, rfl⟩
            · have g88 : u 88 = .bool false := hR ⟨17, .guard⟩ (by simp) rfl
              have h92 : u 92 = .int .i64 1 := hR ⟨21, .data⟩ (by simp) rfl
              clear hR
              simp only [g88, h92]
              clear g88 h92
              refine if_yes (by kernel_rfl) ?_
              unfold Oper.wp
              go_simp
              exact ⟨.bool false, rfl, HC.out, trivial, rfl⟩
            · have g88 : u 88 = .bool false := hR ⟨17, .guard⟩ (by simp) rfl
              have h90 : u 90 = .bool false := hR ⟨19, .data⟩ (by simp) rfl
              have h93 : u 93 = .bool false := hR ⟨22, .data⟩ (by simp) rfl
              clear hR
              simp only [g88, h90, h93]
              clear g88 h90 h93
              refine if_yes (by kernel_rfl) ?_
              unfold Oper.wp
              go_simp
              exact ⟨.bool false, rfl, HC.out, trivial, rfl⟩
            · have h88 : u 88 = .bool false := hR ⟨17, .data⟩ (by simp) rfl
              have h94 : u 94 = .bool false := hR ⟨23, .data⟩ (by simp) rfl
              clear hR
              simp only [h88, h94]
              clear h88 h94
              refine if_yes (by kernel_rfl) ?_
              unfold Oper.wp
              go_simp
              exact ⟨.bool false, rfl, HC.out, trivial, rfl⟩
            · have h95 : u 95 = .bool false := hR ⟨24, .data⟩ (by simp) rfl
              clear hR
              simp only [h95]
              clear h95
              refine if_yes (by kernel_rfl) ?_
              unfold Oper.wp
              go_simp
              exact ⟨.bool false, rfl, HC.out, trivial, rfl⟩
            · have g96 : u 96 = .bool false := hR ⟨25, .guard⟩ (by simp) rfl
              clear hR
              simp only [g96]
              clear g96
              refine if_yes (by kernel_rfl) ?_
              unfold Oper.wp
              go_simp
              exact ⟨.pointer (some ⟨o, 0, none⟩), rfl, HC.out, trivial, rfl⟩
            · have g96 : u 96 = .bool false := hR ⟨25, .guard⟩ (by simp) rfl
              have h97 : u 97 = .pointer (some ⟨o, 0, none⟩) := hR ⟨26, .data⟩ (by simp) rfl
              clear hR
              simp only [g96, h97]
              clear g96 h97
              refine if_yes (by kernel_rfl) ?_
              unfold Oper.wp
              go_simp
              obtain ⟨F9, hx9⟩ := HC.out
              refine (ce_torn o F9 t _ HWT.out hx9.cell).mono ?_
              rintro e w2 ⟨rfl, rfl⟩
              rw [HBT.out.2]
              exact ⟨.bool true, rfl, ⟨F9, hx9⟩, trivial, rfl⟩
            · have g96 : u 96 = .bool false := hR ⟨25, .guard⟩ (by simp) rfl
              clear hR
              simp only [g96]
              clear g96
              refine if_yes (by kernel_rfl) ?_
              unfold Oper.wp
              go_simp
              exact ⟨.pointer (some ⟨w.heap.size, 1, none⟩), rfl, HC.out, trivial, rfl⟩
            · have g96 : u 96 = .bool false := hR ⟨25, .guard⟩ (by simp) rfl
              have h99 : u 99 = .pointer (some ⟨w.heap.size, 1, none⟩) := hR ⟨28, .data⟩ (by simp) rfl
              obtain ⟨F9, hx9⟩ := HC.out
              have hc : w'.cell? ⟨w.heap.size, 1, none⟩ = some (.int .i64 1) := (HBX.out _ hx9.low).cell 1
              clear hR
              simp only [g96, h99]
              clear g96 h99
              refine if_yes (by kernel_rfl) ?_
              unfold Oper.wp
              go_simp
              exact ⟨.int .i64 1, rfl, HC.out, trivial, rfl⟩
            · have g96 : u 96 = .bool false := hR ⟨25, .guard⟩ (by simp) rfl
              have h100 : u 100 = .int .i64 1 := hR ⟨29, .data⟩ (by simp) rfl
              clear hR
              simp only [g96, h100]
              clear g96 h100
              refine if_yes (by kernel_rfl) ?_
              unfold Oper.wp
              go_simp
              exact ⟨.bool true, rfl, HC.out, trivial, rfl⟩
            · have g96 : u 96 = .bool false := hR ⟨25, .guard⟩ (by simp) rfl
              have h98 : u 98 = .bool true := hR ⟨27, .data⟩ (by simp) rfl
              have h101 : u 101 = .bool true := hR ⟨30, .data⟩ (by simp) rfl
              clear hR
              simp only [g96, h98, h101]
              clear g96 h98 h101
              refine if_yes (by kernel_rfl) ?_
              unfold Oper.wp
              go_simp
              exact ⟨.bool false, rfl, HC.out, trivial, rfl⟩
            · have h96 : u 96 = .bool false := hR ⟨25, .data⟩ (by simp) rfl
              have h102 : u 102 = .bool false := hR ⟨31, .data⟩ (by simp) rfl
              clear hR
              simp only [h96, h102]
              clear h96 h102
              refine if_yes (by kernel_rfl) ?_
              unfold Oper.wp
              go_simp
              exact ⟨.bool false, rfl, HC.out, trivial, rfl⟩
          · intro a' w' hC hB hR
            have h103 := hR 32 (by decide)
            obtain ⟨u, rfl⟩ := hB
            have h103 : u 103 = .bool false := h103
            simp only [h103]
            obtain ⟨F5, hx5⟩ := hC
            have E5 := Lib.hid hx5
            clear hR h103 HZ0 hx5
            go_wp2_with fail
            try clear hK0
            go_loopw [105] (fun iv wr => ∃ j : Nat, j ≤ L ∧ iv = .int .i64 j ∧ EX w1 o F5 t wr) (fun iv _ => L - (intOf iv).toNat)
            case atStart => exact ⟨0, by omega, rfl, E5.out⟩
            case round =>
              obtain ⟨j, hj, rfl, hex⟩ := hrel
              have ER := Lib.hid hex
              clear hex E5
              by_cases hlj : j < L
              · have htd := HKT.out.told j hlj HN.out.2
                have hsm := HKT.out.small (j : Nat)
                have HSM := Lib.hid hsm
                have HTD := Lib.hid htd
                clear htd hsm
                rcases (by omega : j < n ∨ j = n ∨ n < j) with hji | hji | hji
                · have HRC : Hid (readC t (j : Nat) 0 = 0) := HTD.out.1
                  obtain ⟨tx, htx⟩ : ∃ tx, readT t (j : Nat) 0 = tx := ⟨_, rfl⟩
                  have hrg := HTD.out.2.1 (Or.inl hji)
                  have htx2 : tx = pgS j := htx.symm.trans hrg.1
                  subst htx2
                  have HPV : Hid (pageV (pgS j) = #[.int .i64 2, .int .i64 1, .int .i64 (j : Int), .int .i64 (j : Int), .int .i64 0, .string (byte8 j)]) := hrg.2
                  have HSZ : Hid ((pgS j).size ≤ 400) := pgS_le j
                  have HTX := Lib.hid htx
                  clear htx hrg HTD HSM
                  go_wp2_with fail
                  refine (ce_read o F5 t (j : Nat) 0 _ HWT.out ER.out.cell).mono ?_
                  rintro e w7 ⟨rfl, hb7⟩
                  have E7 := Lib.hid (ER.out.after hb7)
                  rw [HRC.out, HTX.out]
                  clear hb7 ER HRC HTX
                  go_wp2_with fail
                  refine (fr_dec (pgS j) _ HSZ.out (HTB.out _ E7.out.low)).mono ?_
                  rintro e w8 ⟨rfl, hb8⟩
                  rw [HPV.out]
                  have E8 := Lib.hid (E7.out.after hb8)
                  clear hb8 E7 HPV HSZ
                  obtain ⟨w9, hw9⟩ : ∃ w9, (w8.alloc (.cells #[.int .i64 0, .int .i64 0, .int .i64 0, .int .i64 0, .int .i64 0, .string ⟨#[]⟩] 36)).setRow w8.heap.size #[.int .i64 2, .int .i64 1, .int .i64 (j : Int), .int .i64 (j : Int), .int .i64 0, .string (byte8 j)] = w9 := ⟨_, rfl⟩
                  have hzb : Blk (w8.alloc (.cells #[.int .i64 0, .int .i64 0, .int .i64 0, .int .i64 0, .int .i64 0, .string ⟨#[]⟩] 36)) w8.heap.size #[.int .i64 0, .int .i64 0, .int .i64 0, .int .i64 0, .int .i64 0, .string ⟨#[]⟩] 36 := Blk.new w8 _ _
                  have hb9 : Below w8.heap.size w8 w9 := by rw [← hw9]; exact below_put (Nat.le_refl _) _ ((Below.refl _ _).alloc (Nat.le_refl _) _)
                  have hn9 : Blk w9 w8.heap.size #[.int .i64 2, .int .i64 1, .int .i64 (j : Int), .int .i64 (j : Int), .int .i64 0, .string (byte8 j)] 36 := by rw [← hw9]; exact hzb.put _
                  have E9 := Lib.hid (E8.out.after hb9)
                  have HZB := Lib.hid hzb
                  have HN9 := Lib.hid hn9
                  have HW9 := Lib.hid hw9
                  clear hw9 hzb hb9 hn9 E8
                  go_wp2_with (refine wpList_store_row rfl 36 (.tmp 15) (.tmp 115) rfl w8.heap.size #[.int .i64 2, .int .i64 1, .int .i64 (j : Int), .int .i64 (j : Int), .int .i64 0, .string (byte8 j)] rfl rfl 36 _ HZB.out size_page rfl (pv_one 2 1 (j : Int) (j : Int) 0 (byte8 j)) ?_; change wpList _ _ _ _ _ ((w8.alloc (.cells #[.int .i64 0, .int .i64 0, .int .i64 0, .int .i64 0, .int .i64 0, .string ⟨#[]⟩] 36)).setRow w8.heap.size #[.int .i64 2, .int .i64 1, .int .i64 (j : Int), .int .i64 (j : Int), .int .i64 0, .string (byte8 j)]); rw [HW9.out])
                  refine (ce_pageOf j _ (by omega) (HTB.out _ E9.out.low)).mono ?_
                  rintro e w10 ⟨rfl, hb10⟩
                  have E10 := Lib.hid (E9.out.after hb10)
                  have c15 : w10.cell? ⟨w8.heap.size, 0, none⟩ = some (.int .i64 2) := (HN9.out.after hb10).cell 0
                  clear hb10 E9 HN9 HW9 HZB
                  go_wp2_with fail
                  go_roundw
                  case rel => exact ⟨j + 1, by omega, by go_num, E10.out⟩
                  case measure => simp [intOf]; omega
                · have HHT : hurtsB 1 = true := rfl
                  have HRC : Hid (readC t (j : Nat) 0 = 0) := HTD.out.1
                  obtain ⟨tx, htx⟩ : ∃ tx, readT t (j : Nat) 0 = tx := ⟨_, rfl⟩
                  have hpv : pageV (readT t (j : Nat) 0) = pv 4 0 0 0 0 ByteArray.empty := HTD.out.2.2.1 hji HHT
                  rw [htx] at hpv
                  have HPV : Hid (pageV tx = #[.int .i64 4, .int .i64 0, .int .i64 0, .int .i64 0, .int .i64 0, .string ByteArray.empty]) := hpv
                  have HSZ : Hid (tx.size ≤ 400) := by
                    show tx.size ≤ 400
                    rw [← htx]
                    exact HSM.out
                  have HTX := Lib.hid htx
                  clear htx hpv HTD HSM
                  have HJL : Hid (¬ (j : Int) < (n : Int)) := by
                    show ¬ (j : Int) < (n : Int)
                    omega
                  have HJB : Hid (((j : Int) == (n : Int)) = true) := by
                    show ((j : Int) == (n : Int)) = true
                    simp
                    omega
                  clear hji
                  go_wp2_with fail
                  refine (ce_read o F5 t (j : Nat) 0 _ HWT.out ER.out.cell).mono ?_
                  rintro e w7 ⟨rfl, hb7⟩
                  have E7 := Lib.hid (ER.out.after hb7)
                  rw [HRC.out, HTX.out]
                  clear hb7 ER HRC HTX
                  go_wp2_with fail
                  refine (fr_dec tx _ HSZ.out (HTB.out _ E7.out.low)).mono ?_
                  rintro e w8 ⟨rfl, hb8⟩
                  rw [HPV.out]
                  have E8 := Lib.hid (E7.out.after hb8)
                  clear hb8 E7 HPV HSZ
                  have hjl := HJL.out
                  have hjb := HJB.out
                  clear HJL HJB
                  go_wp2_with fail
                  go_roundw
                  case rel => exact ⟨j + 1, by omega, by go_num, E8.out.after ((Below.refl _ _).alloc (Nat.le_refl _) _)⟩
                  case measure => simp [intOf]; omega
                · have HRC : Hid (readC t (j : Nat) 0 = 0) := HTD.out.1
                  obtain ⟨tx, htx⟩ : ∃ tx, readT t (j : Nat) 0 = tx := ⟨_, rfl⟩
                  have hpv : pageV (readT t (j : Nat) 0) = pv 1 0 0 0 0 ByteArray.empty := HTD.out.2.2.2 hji
                  rw [htx] at hpv
                  have HPV : Hid (pageV tx = #[.int .i64 1, .int .i64 0, .int .i64 0, .int .i64 0, .int .i64 0, .string ByteArray.empty]) := hpv
                  have HSZ : Hid (tx.size ≤ 400) := by
                    show tx.size ≤ 400
                    rw [← htx]
                    exact HSM.out
                  have HTX := Lib.hid htx
                  clear htx hpv HTD HSM
                  go_wp2_with fail
                  refine (ce_read o F5 t (j : Nat) 0 _ HWT.out ER.out.cell).mono ?_
                  rintro e w7 ⟨rfl, hb7⟩
                  have E7 := Lib.hid (ER.out.after hb7)
                  rw [HRC.out, HTX.out]
                  clear hb7 ER HRC HTX
                  go_wp2_with fail
                  refine (fr_dec tx _ HSZ.out (HTB.out _ E7.out.low)).mono ?_
                  rintro e w8 ⟨rfl, hb8⟩
                  rw [HPV.out]
                  have E8 := Lib.hid (E7.out.after hb8)
                  clear hb8 E7 HPV HSZ
                  go_wp2_with fail
                  go_roundw
                  case rel => exact ⟨j + 1, by omega, by go_num, E8.out.after ((Below.refl _ _).alloc (Nat.le_refl _) _)⟩
                  case measure => simp [intOf]; omega
              · have hag := HKT.out.again
                have hcn := HKT.out.cnt
                have HEC : Hid (eraseC t 0 = 0) := (hag.2 (by decide)).1
                have HES : Hid ((eraseSt t 0 0 0).mode = 0 ∧ (eraseSt t 0 0 0).done = 0 ∧ (eraseSt t 0 0 0).torn = false) := (hag.2 (by decide)).2
                have HCN := Lib.hid hcn
                clear hag hcn
                go_wp2_with fail
                refine (ce_erase o F5 t 0 0 0 0 _ HWT.out ER.out.cell (by rw [HCN.out.1]; decide) (by rw [HCN.out.2]; decide)).mono ?_
                rintro e w7 ⟨rfl, ⟨F7, hc, hg⟩, ho⟩
                have E7 := Lib.hid (ER.out.act hc hg ho)
                have hq7 : w7.cell? ⟨w.heap.size, 1, none⟩ = some (.int .i64 1) := (HBX.out w7 E7.out.low).cell 1
                rw [HEC.out]
                clear hc hg ho ER
                obtain ⟨z, hz⟩ : ∃ z, eraseSt t 0 0 0 = z := ⟨_, rfl⟩
                have HWZ : Hid (WfSt z) := by
                  show WfSt z
                  rw [← hz]
                  exact eraseSt_wf HWT.out _ _ _ (by rw [HCN.out.1]; decide) (by rw [HCN.out.2]; decide)
                rw [hz] at E7 HES
                clear hz
                go_wp2_with fail
                refine (ce_mode o F7 z _ HWZ.out E7.out.cell).mono ?_
                rintro e w8 ⟨rfl, rfl⟩
                rw [HES.out.1]
                go_wp2_with fail
                refine (ce_done o F7 z _ HWZ.out E7.out.cell).mono ?_
                rintro e w8 ⟨rfl, rfl⟩
                rw [HES.out.2.1]
                go_wp2_with fail
                refine (ce_torn o F7 z _ HWZ.out E7.out.cell).mono ?_
                rintro e w8 ⟨rfl, rfl⟩
                rw [HES.out.2.2]
                go_wp2_with fail
                go_ret
                exact ⟨by first | rfl | (have h2 := HK.out.2; have h3 : (k == 2) = false := by simpa using h2; have h4 : (k != 2) = true := by simpa using h2; simp [h2, h3, h4]) | (have h2 := HK.out.2; simp [h2]; done), HB1.out.trans (E7.out.low.mono HB1.out.size)⟩

end Go.Proofs.YtjmoecfgpfdncaaDoor
