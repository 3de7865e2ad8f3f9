/- Texts of one claim, merged: Inv3, CeRC, CeRD, CeRG, CeRH, CeRE, CeR9, CeRA, CeRB, CeRF, FaP, BitsZ, GeM, CeS, CeN, CeA, Rng, OrI. -/
import Derived.Test.YtlijndkpgmbapaaGreatDoorS1
import Derived.BigQuiet
import Derived.Deep.QuietTactic
import Derived.Sort.LotA
import Derived.Shelf.SlSortCmp.Insertion
import Derived.Lib.Small
import Derived.Lib.ConvBytes
import Derived.RangeFuncNested
import Derived.RangeFuncBound
import Derived.RangeFuncCalls
import Derived.RangeFuncLeaves
import Derived.Shelf.Abstract
import Derived.Shelf.RegionOpen
import Derived.WalkKit
import Derived.OwnWalkIn
import Derived.TacticsInMore
import Derived.LoopNIn
import Derived.LoopIn

/- As XInv2, where one operation (a store) comes behind all others: what holds of the world need hold up to it alone. -/
namespace Go.Proofs.YtlijndkpgmbapaaGreatDoor

section
variable {P : Program} {ops : Array Oper} {Q : Exit → Act → World → Prop} {md : Region.Mode}

theorem wpAny_facts3 {Base : Act → Prop} {C : World → Prop} {T : World → World → Prop} {R : Nat → Act → World → Prop} {S : Nat → List Tmp} (z : Nat) (hzb : z < ops.size)
    (hbefore : ∀ (i : Nat) (o : Oper), ops[i]? = some o → ∀ e ∈ o.after, Region.binds md e = true → e.on < i)
    (hslots : ∀ (i j : Nat) (o o' : Oper), ops[i]? = some o → ops[j]? = some o' → j ≠ i → (∀ e ∈ o'.after, Region.binds md e = true → e.on ≠ i) → ∀ d, o.dst = some d → d ∉ S j)
    (hext : ∀ j a a' w w', R j a w → (∀ s ∈ S j, a'.tmps.getD s undef = a.tmps.getD s undef) → T w w' → R j a' w')
    (hbase : ∀ (i : Nat) (o : Oper), ops[i]? = some o → ∀ a v, Base a → Base (a.put o.dst v))
    (hlast : ∀ o, ops[z]? = some o → ∀ i, i < ops.size → i ≠ z → ∃ e ∈ o.after, Region.binds md e = true ∧ e.on = i)
    (hops : ∀ (i : Nat) (o : Oper), ops[i]? = some o → ∀ a w, C w → Base a → (∀ e ∈ o.after, Region.binds md e = true → R e.on a w) →
      wpOp P ops Q i (fun a' w' => ∃ v, a' = a.put o.dst v ∧ (i ≠ z → C w') ∧ T w w' ∧ R i a' w') a w)
    (hfin : ∀ a w, Base a → (∀ i, i < ops.size → R i a w) → Q .normal a w) :
    ∀ (fuel : Nat) (listed : Array Bool) (a : Act) (w : World), still ops.size listed ≤ fuel → listed.size = ops.size → (listed.getD z true = false → C w) → Base a →
      (∀ i, i < ops.size → listed.getD i true = true → R i a w ∧ ∀ o, ops[i]? = some o → ∀ e ∈ o.after, Region.binds md e = true → listed.getD e.on true = true) → wpAny P md ops Q fuel listed a w := by
  have all : ∀ (listed : Array Bool), listed.size = ops.size → Region.ready md ops listed = [] → ∀ i, i < ops.size → listed.getD i true = true := by
    intro listed hsz hr i
    induction i using Nat.strongRecOn with
    | ind i ih =>
      intro hi
      cases hl : listed.getD i true with
      | true => rfl
      | false =>
        exfalso
        have hm : i ∈ Region.ready md ops listed := by
          rw [mem_ready]
          refine ⟨hl, ops[i], by simp [hi], fun e he hb => ?_⟩
          have hlt := hbefore i ops[i] (by simp [hi]) e he hb
          have h2 := ih e.on hlt (by omega)
          have h3 : e.on < listed.size := by omega
          simp [Array.getD, h3] at h2 ⊢
          exact h2
        rw [hr] at hm; cases hm
  intro fuel
  induction fuel with
  | zero =>
    intro listed a w hst hsz hC hB hR
    have hall := still_zero (Nat.le_zero.1 hst)
    have hr : Region.ready md ops listed = [] := by
      cases h : Region.ready md ops listed with
      | nil => rfl
      | cons i l =>
        have hm : i ∈ Region.ready md ops listed := by rw [h]; exact List.mem_cons_self
        obtain ⟨h1, o, ho, _⟩ := mem_ready.1 hm
        have hi : i < ops.size := (Array.getElem?_eq_some_iff.1 ho).1
        rw [hall i hi] at h1; cases h1
    exact ⟨hr, hfin a w hB fun i hi => (hR i hi (hall i hi)).1⟩
  | succ fuel ih =>
    intro listed a w hst hsz hC hB hR
    refine ⟨fun hr => hfin a w hB fun i hi => (hR i hi (all listed hsz hr i hi)).1, fun i hi => ?_⟩
    obtain ⟨h1, o, ho, hdeps⟩ := mem_ready.1 hi
    have hin : i < ops.size := (Array.getElem?_eq_some_iff.1 ho).1
    have hdl : ∀ e ∈ o.after, Region.binds md e = true → listed.getD e.on true = true := by
      intro e he hb
      have hlt := hbefore i o ho e he hb
      have h2 := hdeps e he hb
      have h3 : e.on < listed.size := by omega
      simp [Array.getD, h3] at h2 ⊢
      exact h2
    have hCw : C w := by
      apply hC
      by_cases e : i = z
      · rw [← e]; exact h1
      · cases hz : listed.getD z true with
        | false => rfl
        | true =>
          exfalso
          by_cases hzs : z < ops.size
          · obtain ⟨_, hdz⟩ := hR z hzs hz
            obtain ⟨e', he', hb', hon⟩ := hlast ops[z] (by simp [hzs]) i hin e
            have h4 := hdz ops[z] (by simp [hzs]) e' he' hb'
            rw [hon, h1] at h4; cases h4
          · exact hzs hzb
    refine wpOp_mono ?_ (hops i o ho a w hCw hB fun e he hb => (hR e.on (by have := hbefore i o ho e he hb; omega) (hdl e he hb)).1)
    rintro a' w' ⟨v, rfl, hC', hT, hRv⟩
    have hless := still_less hin h1
    have keep : ∀ k, listed.getD k true = true → (listed.setIfInBounds i true).getD k true = true := by
      intro k hk
      by_cases e : k = i
      · subst e
        have hs : k < listed.size := by omega
        simp [Array.getD, hs]
      · rw [getD_set_ne true (Ne.symm e)]; exact hk
    refine ih _ _ _ (by omega) (by simp [hsz]) (fun hz => hC' fun e => ?_) (hbase i o ho a v hB) fun j hj hlj => ?_
    · subst e
      have hs : i < listed.size := by omega
      simp [Array.getD, hs] at hz
    by_cases e : j = i
    · subst e
      refine ⟨hRv, fun o' ho' e he hb => keep _ ?_⟩
      obtain rfl : o' = o := Option.some.inj (ho'.symm.trans ho)
      exact hdl e he hb
    · rw [getD_set_ne true (Ne.symm e)] at hlj
      obtain ⟨hRj, hdj⟩ := hR j hj hlj
      refine ⟨hext j a _ w w' hRj (fun s hs => put_slot fun x hx hxs => ?_) hT, fun o' ho' e he hb => keep _ (hdj o' ho' e he hb)⟩
      subst hxs
      refine hslots i j o ops[j] ho (by simp [hj]) e (fun e' he' hb' hne => ?_) x hx hs
      have := hdj ops[j] (by simp [hj]) e' he' hb'
      rw [hne, h1] at this; cases this

/-- does operation z come behind all others? -/
def lastB (l : List Oper) (z : Nat) : Bool := match l[z]? with
  | none => false
  | some o => (List.range l.length).all fun i => i == z || o.after.any fun e => Region.binds .any e && e.on == i
/-- .. where operations may be guarded: an operation that is not wanted leaves its slot undefined -/
theorem wp_region_list4 {id : Nat} {l : List Oper} {a : Act} {w : World} (z : Nat) (S : List (List Tmp)) (Base : Act → Prop) (C : World → Prop) (T : World → World → Prop) (R : Nat → Act → World → Prop) (hm : P.follows .mixedOrders = true)
    (hzl : z < l.length) (hzB : lastB l z = true) (hpl : planB l S = true) (hext : ∀ j a a' w w', R j a w → (∀ s ∈ S.getD j [], a'.tmps.getD s undef = a.tmps.getD s undef) → T w w' → R j a' w')
    (hbase : AllFrom (fun _ o => ∀ a v, Base a → Base (a.put o.dst v)) 0 l) (hC : C { w with drawn := w.drawn + 1 }) (hB : Base a)
    (hops : AllFrom (fun i o => ∀ a w, C w → Base a → (∀ e ∈ o.after, Region.binds .any e = true → R e.on a w) →
      if Region.wanted o (yielded l.toArray a.tmps) = true then o.wp P a w (Leaves (fun w' => i ≠ z → C w') T R i o a w) Q
      else Leaves (fun w' => i ≠ z → C w') T R i o a w (a.put o.dst undef) w) 0 l)
    (hfin : ∀ a w, Base a → (∀ i, i < l.length → R i a w) → Q .normal a w) : (Code.region id l.toArray true).wp P Q a w := by
  have hp := List.all_eq_true.1 hpl
  refine wp_region_any hm (wpAny_facts3 z (by simpa using hzl) (S := fun j => S.getD j []) (Base := Base) (C := C) (T := T) (R := R) ?_ ?_ hext hbase.all ?_
    (fun i o ho a w h1 h2 h3 => ?_)
    (fun a w h2 h3 => hfin a w h2 fun i hi => h3 i (by simpa using hi)) _ _ _ _ ?_ (by simp) (fun _ => hC) hB ?_)
  · intro i o ho e he hb
    have ho' : l[i]? = some o := by simpa using ho
    have h1 := hp i (List.mem_range.2 (List.getElem?_eq_some_iff.1 ho').1)
    simp only [ho', Bool.and_eq_true] at h1
    have h2 := (Array.all_eq_true_iff_forall_mem.1 h1.1) e he
    simpa [hb] using h2
  · intro i j o o' ho ho' hne hno d hd
    have hi : l[i]? = some o := by simpa using ho
    have hj : l[j]? = some o' := by simpa using ho'
    have h1 := hp i (List.mem_range.2 (List.getElem?_eq_some_iff.1 hi).1)
    simp only [hi, hd, Bool.and_eq_true] at h1
    have h2 := List.all_eq_true.1 h1.2 j (List.mem_range.2 (List.getElem?_eq_some_iff.1 hj).1)
    simp only [hj, Bool.or_eq_true, beq_iff_eq] at h2
    rcases h2 with h2 | h2 | h2
    · exact absurd h2 hne
    · obtain ⟨k, hk, hb⟩ := Array.any_eq_true.1 h2
      obtain ⟨e, he⟩ : ∃ e, e = o'.after[k] := ⟨_, rfl⟩
      rw [← he] at hb
      have he : e ∈ o'.after := by rw [he]; exact Array.getElem_mem hk
      simp only [Bool.and_eq_true, beq_iff_eq] at hb
      exact absurd hb.2 (hno e he hb.1)
    · intro hm
      simp at h2
      exact h2 hm
  · intro o ho i hi hne
    have ho' : l[z]? = some o := by simpa using ho
    have hi' : i < l.length := by simpa using hi
    unfold lastB at hzB
    rw [ho'] at hzB
    have h1 := List.all_eq_true.1 hzB i (List.mem_range.2 hi')
    simp only [Bool.or_eq_true, beq_iff_eq] at h1
    rcases h1 with h1 | h1
    · exact absurd h1 hne
    · obtain ⟨k, hk, hb⟩ := Array.any_eq_true.1 h1
      simp only [Bool.and_eq_true, beq_iff_eq] at hb
      exact ⟨o.after[k], Array.getElem_mem hk, hb.1, hb.2⟩
  · have h4 := hops.all i o ho a w h1 h2 h3
    unfold wpOp
    simp only [ho]
    by_cases hw : Region.wanted o (yielded l.toArray a.tmps) = true
    · rw [if_pos hw] at h4 ⊢
      exact Or.inl h4
    · rw [if_neg hw] at h4 ⊢
      exact h4
  · unfold still
    exact Nat.le_trans (List.length_filter_le _ _) (by simp)
  · intro i hi h
    have hi' : i < l.length := by simpa using hi
    simp [Array.getD] at h
    omega

end
end Go.Proofs.YtlijndkpgmbapaaGreatDoor

/- The reference of layer 8, walked: two, where it is taken. -/
namespace Go.Proofs.YtlijndkpgmbapaaGreatDoor
set_option maxRecDepth 100000
open Go.RowKit

def tv3 (p q r : ByteArray) : Array Value := #[.string p, .string q, .string r]
theorem size_three : (Tryz.prog.info? 38).map (·.size) = some 3 := by kernel_rfl
theorem below_4 (w : World) (A B C D : Obj) : Below w.heap.size w ((((w.alloc A).alloc B).alloc C).alloc D) := (below_3 w A B C).alloc (by simp; omega) _
theorem blk_4d (w : World) (A B C : Obj) (cs : Array Value) (t : TypeId) : Blk ((((w.alloc A).alloc B).alloc C).alloc (.cells cs t)) (w.heap.size + 3) cs t := by
  have h := Blk.new (((w.alloc A).alloc B).alloc C) cs t
  rwa [World.size_alloc, World.size_alloc, World.size_alloc] at h

/-- the world while two goes on, at its beginning -/
structure CW8 (w0 : World) (s : St) (g c h d : Nat) (p q r : ByteArray) (x k a b : Int) (w : World) : Prop where
  cell : Blk w w0.heap.size (cv s g c h d) 76
  pgs : Blk w (w0.heap.size + 1) (tv3 p q r) 38
  how : Blk w (w0.heap.size + 2) (fv x k a b) 40
  ans : Blk w (w0.heap.size + 3) zv 76
  rd : RAt w s g c h d
  low : Below w0.heap.size w0 w
  top : w0.heap.size + 4 ≤ w.heap.size
theorem CW8.call {w0 w w' : World} {s : St} {g c h d : Nat} {p q r : ByteArray} {x k a b : Int} (h0 : CW8 w0 s g c h d p q r x k a b w) (hw : WfSt s) (hb : Below w.heap.size w w') : CW8 w0 s g c h d p q r x k a b w' :=
  ⟨h0.cell.after hb, h0.pgs.after hb, h0.how.after hb, h0.ans.after hb, h0.rd.after hw hb, h0.low.trans (hb.mono h0.low.size), Nat.le_trans h0.top hb.size⟩


/-- the n-th of three -/
def pgN (p q r : ByteArray) (n : Nat) : ByteArray := if n = 0 then p else if n = 1 then q else r
theorem put3_wf {s : St} (h : WfSt s) (i : Nat) {p q r : ByteArray} (k a b : Int) (hp : p.size ≤ 400) (hq : q.size ≤ 400) (hr : r.size ≤ 400) (n : Nat) (hn : n ≤ 3) : WfSt (put3 s i p q r k a b n) := by
  have h1 := putSt_wf h i (hurtsB k) (p := pageT p k a b) (by rw [pageT_size]; exact hp)
  have h2 := putSt_wf h1 (i + 1) (hurtsB k) (p := pageT q k a b) (by rw [pageT_size]; exact hq)
  have h3 := putSt_wf h2 (i + 2) (hurtsB k) (p := pageT r k a b) (by rw [pageT_size]; exact hr)
  match n, hn with
  | 0, _ => exact h
  | 1, _ => exact h1
  | 2, _ => exact h2
  | 3, _ => exact h3
def TZ (R : Nat) (Z : World → Prop) (w w' : World) : Prop := (∀ b, b < w.heap.size → b ≠ R → w'.heap[b]? = w.heap[b]?) ∧ (Z w → Z w')
theorem TZ.refl (R : Nat) (Z : World → Prop) (w : World) : TZ R Z w w := ⟨fun _ _ _ => rfl, id⟩
theorem TZ.call {R : Nat} {Z : World → Prop} {w w' : World} (hZ : Z w → Below w.heap.size w w' → Z w') (hb : Below w.heap.size w w') : TZ R Z w w' := ⟨fun b hlt _ => hb.block b hlt, fun h => hZ h hb⟩
theorem TZ.put {R : Nat} {Z : World → Prop} {w : World} (cs : Array Value) (h : Z (w.setRow R cs)) : TZ R Z w (w.setRow R cs) := ⟨fun b _ hne => setRow_heap_ne _ _ _ _ (by omega), fun _ => h⟩
theorem SlotC.ext4 {x : Tmp} {s : St} {base R : Nat} {Z : World → Prop} {a a' : Act} {w w' : World} (hw : WfSt s) (hR : R < base) (h : SlotC x s base a w) (hx : a'.tmps.getD x undef = a.tmps.getD x undef) (hT : TZ R Z w w') : SlotC x s base a' w' := by
  obtain ⟨g, c, h', d, h1, h2, h3, h4⟩ := h
  have hl := h2.lt hw
  exact ⟨g, c, h', d, hx.trans h1, h2.keep (hT.1 g hl.1 (by omega)) (hT.1 h' hl.2 (by omega)), h3, h4⟩
/-- behind a store: the cell that is put, its slices new -/
def ZTW (w0 : World) (s : St) (p q r : ByteArray) (x k a b : Int) (w : World) : Prop := ∃ g c h d, CW8 w0 s g c h d p q r x k a b w ∧ w0.heap.size + 4 ≤ g ∧ w0.heap.size + 4 ≤ h
theorem ZTW.call {w0 w w' : World} {s : St} {p q r : ByteArray} {x k a b : Int} (hw : WfSt s) (h : ZTW w0 s p q r x k a b w) (hb : Below w.heap.size w w') : ZTW w0 s p q r x k a b w' := by
  obtain ⟨g, c, h', d, h1, h2, h3⟩ := h
  exact ⟨g, c, h', d, h1.call hw hb, h2, h3⟩
theorem CW8.store {w0 w : World} {s t : St} {g c h d g2 c2 h2 d2 : Nat} {p q r : ByteArray} {x k a b : Int} (h0 : CW8 w0 s g c h d p q r x k a b w) (hr : RAt w t g2 c2 h2 d2) (hg : w0.heap.size + 4 ≤ g2) (hh : w0.heap.size + 4 ≤ h2) : ZTW w0 t p q r x k a b (w.setRow w0.heap.size (cv t g2 c2 h2 d2)) :=
  ⟨g2, c2, h2, d2, ⟨h0.cell.put _, h0.pgs.put_other (by omega) _, h0.how.put_other (by omega) _, h0.ans.put_other (by omega) _, hr.keep (setRow_heap_ne _ _ _ _ (by omega)) (setRow_heap_ne _ _ _ _ (by omega)), below_put (Nat.le_refl _) _ h0.low, by rw [size_setRow]; exact h0.top⟩, hg, hh⟩
structure SpTW (w0 : World) (s : St) (p q r : ByteArray) (x k b1 b : Int) (j : Nat) (a : Act) (w : World) : Prop where
  c12 : j = 12 → SlotC 114 s (w0.heap.size + 4) a w
  c13 : j = 13 → ZTW w0 s p q r x k b1 b w
def fTW (j : Nat) : List Tmp := if j = 12 then [114] else []
theorem SpTW.ext {w0 : World} {s : St} {p q r : ByteArray} {x k b1 b : Int} (h2 : WfSt s) : ∀ (j : Nat) (a a' : Act) (w w' : World), SpTW w0 s p q r x k b1 b j a w → (∀ y ∈ fTW j, a'.tmps.getD y undef = a.tmps.getD y undef) → TZ w0.heap.size (ZTW w0 s p q r x k b1 b) w w' → SpTW w0 s p q r x k b1 b j a' w' := by
  rintro j a a' w w' ⟨f1, f2⟩ hx hT
  exact ⟨fun h => (f1 h).ext4 h2 (by omega) (hx 114 (by subst h; simp [fTW])) hT, fun h => hT.2 (f2 h)⟩

/-- the frame while the region TW runs -/
def BaseTW (B i n : Nat) (arr0 : Array Value) (a : Act) : Prop := ∃ u : Nat → Value, a = ⟨#[arr0.getD 0 undef, .int .i64 (i : Nat), arr0.getD 2 undef, arr0.getD 3 undef, arr0.getD 4 undef, .pointer (some ⟨B, 0, none⟩), arr0.getD 6 undef, .pointer (some ⟨B + 1, 0, none⟩), arr0.getD 8 undef, .pointer (some ⟨B + 2, 0, none⟩), .pointer (some ⟨B + 3, 0, none⟩), arr0.getD 11 undef, arr0.getD 12 undef, arr0.getD 13 undef, arr0.getD 14 undef, .int .i64 (n : Nat), arr0.getD 16 undef, arr0.getD 17 undef, arr0.getD 18 undef, arr0.getD 19 undef, arr0.getD 20 undef, arr0.getD 21 undef, arr0.getD 22 undef, arr0.getD 23 undef, arr0.getD 24 undef, arr0.getD 25 undef, arr0.getD 26 undef, arr0.getD 27 undef, arr0.getD 28 undef, arr0.getD 29 undef, arr0.getD 30 undef, arr0.getD 31 undef, arr0.getD 32 undef, arr0.getD 33 undef, arr0.getD 34 undef, arr0.getD 35 undef, arr0.getD 36 undef, arr0.getD 37 undef, arr0.getD 38 undef, arr0.getD 39 undef, arr0.getD 40 undef, arr0.getD 41 undef, arr0.getD 42 undef, arr0.getD 43 undef, arr0.getD 44 undef, arr0.getD 45 undef, arr0.getD 46 undef, arr0.getD 47 undef, arr0.getD 48 undef, arr0.getD 49 undef, arr0.getD 50 undef, arr0.getD 51 undef, arr0.getD 52 undef, arr0.getD 53 undef, arr0.getD 54 undef, arr0.getD 55 undef, arr0.getD 56 undef, arr0.getD 57 undef, arr0.getD 58 undef, arr0.getD 59 undef, arr0.getD 60 undef, arr0.getD 61 undef, arr0.getD 62 undef, arr0.getD 63 undef, arr0.getD 64 undef, arr0.getD 65 undef, arr0.getD 66 undef, arr0.getD 67 undef, arr0.getD 68 undef, arr0.getD 69 undef, arr0.getD 70 undef, arr0.getD 71 undef, arr0.getD 72 undef, arr0.getD 73 undef, arr0.getD 74 undef, arr0.getD 75 undef, arr0.getD 76 undef, arr0.getD 77 undef, arr0.getD 78 undef, arr0.getD 79 undef, arr0.getD 80 undef, arr0.getD 81 undef, arr0.getD 82 undef, arr0.getD 83 undef, arr0.getD 84 undef, arr0.getD 85 undef, arr0.getD 86 undef, arr0.getD 87 undef, arr0.getD 88 undef, arr0.getD 89 undef, arr0.getD 90 undef, arr0.getD 91 undef, arr0.getD 92 undef, arr0.getD 93 undef, arr0.getD 94 undef, arr0.getD 95 undef, arr0.getD 96 undef, arr0.getD 97 undef, arr0.getD 98 undef, arr0.getD 99 undef, arr0.getD 100 undef, arr0.getD 101 undef, u 102, u 103, u 104, u 105, u 106, u 107, u 108, u 109, u 110, u 111, u 112, u 113, u 114, arr0.getD 115 undef, arr0.getD 116 undef, arr0.getD 117 undef, arr0.getD 118 undef, arr0.getD 119 undef], []⟩
theorem BaseTW.of {B i n : Nat} (arr : Array Value) (h : arr = #[arr.getD 0 undef, .int .i64 (i : Nat), arr.getD 2 undef, arr.getD 3 undef, arr.getD 4 undef, .pointer (some ⟨B, 0, none⟩), arr.getD 6 undef, .pointer (some ⟨B + 1, 0, none⟩), arr.getD 8 undef, .pointer (some ⟨B + 2, 0, none⟩), .pointer (some ⟨B + 3, 0, none⟩), arr.getD 11 undef, arr.getD 12 undef, arr.getD 13 undef, arr.getD 14 undef, .int .i64 (n : Nat), arr.getD 16 undef, arr.getD 17 undef, arr.getD 18 undef, arr.getD 19 undef, arr.getD 20 undef, arr.getD 21 undef, arr.getD 22 undef, arr.getD 23 undef, arr.getD 24 undef, arr.getD 25 undef, arr.getD 26 undef, arr.getD 27 undef, arr.getD 28 undef, arr.getD 29 undef, arr.getD 30 undef, arr.getD 31 undef, arr.getD 32 undef, arr.getD 33 undef, arr.getD 34 undef, arr.getD 35 undef, arr.getD 36 undef, arr.getD 37 undef, arr.getD 38 undef, arr.getD 39 undef, arr.getD 40 undef, arr.getD 41 undef, arr.getD 42 undef, arr.getD 43 undef, arr.getD 44 undef, arr.getD 45 undef, arr.getD 46 undef, arr.getD 47 undef, arr.getD 48 undef, arr.getD 49 undef, arr.getD 50 undef, arr.getD 51 undef, arr.getD 52 undef, arr.getD 53 undef, arr.getD 54 undef, arr.getD 55 undef, arr.getD 56 undef, arr.getD 57 undef, arr.getD 58 undef, arr.getD 59 undef, arr.getD 60 undef, arr.getD 61 undef, arr.getD 62 undef, arr.getD 63 undef, arr.getD 64 undef, arr.getD 65 undef, arr.getD 66 undef, arr.getD 67 undef, arr.getD 68 undef, arr.getD 69 undef, arr.getD 70 undef, arr.getD 71 undef, arr.getD 72 undef, arr.getD 73 undef, arr.getD 74 undef, arr.getD 75 undef, arr.getD 76 undef, arr.getD 77 undef, arr.getD 78 undef, arr.getD 79 undef, arr.getD 80 undef, arr.getD 81 undef, arr.getD 82 undef, arr.getD 83 undef, arr.getD 84 undef, arr.getD 85 undef, arr.getD 86 undef, arr.getD 87 undef, arr.getD 88 undef, arr.getD 89 undef, arr.getD 90 undef, arr.getD 91 undef, arr.getD 92 undef, arr.getD 93 undef, arr.getD 94 undef, arr.getD 95 undef, arr.getD 96 undef, arr.getD 97 undef, arr.getD 98 undef, arr.getD 99 undef, arr.getD 100 undef, arr.getD 101 undef, arr.getD 102 undef, arr.getD 103 undef, arr.getD 104 undef, arr.getD 105 undef, arr.getD 106 undef, arr.getD 107 undef, arr.getD 108 undef, arr.getD 109 undef, arr.getD 110 undef, arr.getD 111 undef, arr.getD 112 undef, arr.getD 113 undef, arr.getD 114 undef, arr.getD 115 undef, arr.getD 116 undef, arr.getD 117 undef, arr.getD 118 undef, arr.getD 119 undef]) : BaseTW B i n arr ⟨arr, []⟩ := ⟨fun i => arr.getD i undef, by rw [← h]⟩
end Go.Proofs.YtlijndkpgmbapaaGreatDoor

/- The reference of layer 8, walked: two, where it is refused; Foggy, Fine. -/
namespace Go.Proofs.YtlijndkpgmbapaaGreatDoor
set_option maxRecDepth 100000
open Go.RowKit

theorem two_no {s : St} {line : Int} {p q r : ByteArray} {f : Bool} {k a b : Int} (h : ¬ TwoOk s line p q r f) : twoSt s line p q r f k a b = s ∧ twoC s line p q r f k = 80 := by
  unfold twoSt twoC
  rw [if_neg h, if_neg h]
  exact ⟨rfl, rfl⟩

end Go.Proofs.YtlijndkpgmbapaaGreatDoor

/- The reference of layer 8, walked: two, where it is refused; Foggy, Fine. -/
namespace Go.Proofs.YtlijndkpgmbapaaGreatDoor
set_option maxRecDepth 100000
open Go.RowKit


end Go.Proofs.YtlijndkpgmbapaaGreatDoor

/- The reference of layer 8, walked: two, where it is refused; Foggy, Fine. -/
namespace Go.Proofs.YtlijndkpgmbapaaGreatDoor
set_option maxRecDepth 100000
open Go.RowKit


end Go.Proofs.YtlijndkpgmbapaaGreatDoor

/- The reference of layer 8, walked: two, whole; Foggy, Fine. -/
namespace Go.Proofs.YtlijndkpgmbapaaGreatDoor
set_option maxRecDepth 100000
open Go.RowKit

end Go.Proofs.YtlijndkpgmbapaaGreatDoor

/- The reference of layer 8, walked: Erase, where it is refused, and where it goes well. -/
namespace Go.Proofs.YtlijndkpgmbapaaGreatDoor
set_option maxRecDepth 100000
open Go.RowKit

theorem moreSt_wf {s : St} (h : WfSt s) (h1 : s.slc < 1000000000) (h2 : s.tlc < 1000000000) : WfSt (moreSt s) := by
  obtain ⟨a1, a2, a3, a4, a5, a6, a7, a8, a9, a10⟩ := h
  unfold moreSt
  split
  · exact ⟨a1, a2, a3, a4, a5, a6, a7, a8, a9, h2⟩
  · exact ⟨a1, a2, a3, a4, a5, a6, a7, a8, h1, a10⟩
theorem blankS_size (n : Nat) : (blankS n).size = (n + 24) / 8 * 9 := by simp [blankS, ByteArray.size]
theorem atT_size {s : St} (h : WfSt s) (j : Nat) : (atT s j).size ≤ 400 := by
  unfold atT
  split
  · rw [blankS_size]; obtain ⟨h1, h2, h3⟩ := h.y; omega
  · have := h.size j
    split
    · exact this
    · split
      · rw [hurtT_size]; exact this
      · exact this
theorem ruinT_size {s : St} (h : WfSt s) (a b k : Int) (j : Nat) : (ruinT s a b k j).size ≤ 400 := by
  unfold ruinT
  split
  · exact atT_size h j
  · rw [pageT_size]; exact atT_size h j
theorem ruinTo_wf {s t : St} (hs : WfSt s) (ht : WfSt t) (a b k : Int) : ∀ n, WfSt (ruinTo s t a b k n)
  | 0 => ht
  | n + 1 => putSt_wf (ruinTo_wf hs ht a b k n) n true (ruinT_size hs a b k n)
theorem slcSt_wf {s : St} (h : WfSt s) : WfSt (slcSt s) := by
  unfold slcSt
  split
  · obtain ⟨a1, a2, a3, a4, a5, a6, a7, a8, a9, a10⟩ := h
    exact ⟨a1, a2, a3, a4, a5, a6, a7, Or.inr (Or.inl rfl), a9, a10⟩
  · exact h

/-- the world when the count is one more -/
structure CM (w0 : World) (s : St) (g c h d : Nat) (x k a b : Int) (w : World) : Prop where
  cell : Blk w w0.heap.size (cv (moreSt s) g c h d) 76
  how : Blk w (w0.heap.size + 1) (fv x k a b) 40
  ans : Blk w (w0.heap.size + 2) zv 76
  rd : RAt w (moreSt s) g c h d
  low : Below w0.heap.size w0 w
  top : w0.heap.size + 3 ≤ w.heap.size

end Go.Proofs.YtlijndkpgmbapaaGreatDoor

/- The reference of layer 8, walked: Erase, where it goes well. -/
namespace Go.Proofs.YtlijndkpgmbapaaGreatDoor
set_option maxRecDepth 100000
open Go.RowKit

theorem newSt_wf {s : St} (h : WfSt s) : WfSt (newSt s.L s.Y) := by
  obtain ⟨a1, a2, a3, a4, a5, a6, a7, a8, a9, a10⟩ := h
  refine ⟨a1, a2, a3, Nat.zero_le _, by simp [newSt], by simp [newSt], fun j => ?_, Or.inl rfl, Nat.zero_le _, Nat.zero_le _⟩
  simp only [newSt, List.getD_eq_getElem?_getD, List.getElem?_replicate]
  split <;> simp
end Go.Proofs.YtlijndkpgmbapaaGreatDoor

/- The reference of layer 8, walked: Erase, where it is cut, or fails. -/
namespace Go.Proofs.YtlijndkpgmbapaaGreatDoor
set_option maxRecDepth 100000
open Go.RowKit

end Go.Proofs.YtlijndkpgmbapaaGreatDoor

/- The reference of layer 8, walked: Foggy, Fine; what each act leaves can be. -/
namespace Go.Proofs.YtlijndkpgmbapaaGreatDoor
set_option maxRecDepth 100000
open Go.RowKit

theorem progSt_wf {s : St} (h : WfSt s) (line : Int) (p : ByteArray) (k a b : Int) : WfSt (progSt s line p k a b) := by
  unfold progSt
  split
  · rename_i hok
    obtain ⟨_, _, _, k4, k5, k6⟩ := hok
    exact endSt_wf (putSt_wf (stepSt_wf h (Or.inl rfl) (by omega)) _ _ (by rw [pageT_size]; exact takes_size h k6)) k
  · exact h
theorem twoSt_wf {s : St} (h : WfSt s) (line : Int) (p q r : ByteArray) (f : Bool) (k a b : Int) : WfSt (twoSt s line p q r f k a b) := by
  unfold twoSt
  split
  · rename_i hok
    exact endSt_wf (put3_wf (stepSt_wf h (Or.inr rfl) hok.2.2.2.1) _ k a b (takes_size h hok.2.2.2.2.2.2.1) (takes_size h hok.2.2.2.2.2.2.2.1) (takes_size h hok.2.2.2.2.2.2.2.2.1) 3 (Nat.le_refl _)) k
  · exact h
theorem eraseSt_wf {s : St} (h : WfSt s) (k a b : Int) (h1 : s.slc < 1000000000) (h2 : s.tlc < 1000000000) : WfSt (eraseSt s k a b) := by
  have hm := moreSt_wf h h1 h2
  unfold eraseSt
  split
  · exact h
  · split
    · exact endSt_wf (slcSt_wf (ruinTo_wf hm hm a b k _)) k
    · obtain ⟨a1, a2, a3, a4, a5, a6, a7, a8, a9, a10⟩ := newSt_wf h
      exact ⟨a1, a2, a3, a4, a5, a6, a7, a8, hm.slc, hm.tlc⟩

end Go.Proofs.YtlijndkpgmbapaaGreatDoor

/- Lists of faults, sorted by their first number so that those of one number keep their order: what it is, that there is one, what an exchange of neighbours does. No program in this text. -/
namespace Go.Proofs.YtlijndkpgmbapaaGreatDoor
open Go.Sort

/-- a fault: At, Kind, A, B -/
abbrev Fa := Int × Int × Int × Int

def Srt (l : List Fa) : Prop := l.Pairwise fun x y => x.1 ≤ y.1
/-- those of each number are the same, in the same order -/
def StbF (l l' : List Fa) : Prop := ∀ v : Int, l.filter (fun x => x.1 == v) = l'.filter (fun x => x.1 == v)

theorem StbF.refl (l : List Fa) : StbF l l := fun _ => rfl
theorem StbF.symm {l l' : List Fa} (h : StbF l l') : StbF l' l := fun v => (h v).symm
theorem StbF.trans {a b c : List Fa} (h : StbF a b) (k : StbF b c) : StbF a c := fun v => (h v).trans (k v)
theorem StbF.app {a a' b b' : List Fa} (h : StbF a a') (k : StbF b b') : StbF (a ++ b) (a' ++ b') := fun v => by rw [List.filter_append, List.filter_append, h v, k v]
theorem StbF.mem {a b : List Fa} (h : StbF a b) {x : Fa} (hx : x ∈ a) : x ∈ b := by
  have h1 : x ∈ a.filter (fun y => y.1 == x.1) := List.mem_filter.2 ⟨hx, by simp⟩
  rw [h x.1] at h1
  exact (List.mem_filter.1 h1).1
theorem filter_none {l : List Fa} {v : Int} (h : ∀ x ∈ l, x.1 ≠ v) : l.filter (fun x => x.1 == v) = [] := by
  rw [List.filter_eq_nil_iff]
  intro x hx
  simpa using h x hx
theorem StbF.swap {X Y : List Fa} (h : ∀ x ∈ X, ∀ y ∈ Y, x.1 ≠ y.1) : StbF (X ++ Y) (Y ++ X) := by
  intro v
  rw [List.filter_append, List.filter_append]
  by_cases hx : ∃ x ∈ X, x.1 = v
  · obtain ⟨x, hx, rfl⟩ := hx
    rw [filter_none (l := Y) (fun y hy => (h x hx y hy).symm)]
    simp
  · rw [filter_none (l := X) (fun x hx' e => hx ⟨x, hx', e⟩)]
    simp
theorem StbF.cancel {A X X' B : List Fa} (h : StbF (A ++ X ++ B) (A ++ X' ++ B)) : StbF X X' := by
  intro v
  have := h v
  simp only [List.filter_append] at this
  exact List.append_cancel_left (List.append_cancel_right this)
theorem Srt.app {X Y : List Fa} (h : Srt X) (k : Srt Y) (hxy : ∀ x ∈ X, ∀ y ∈ Y, x.1 ≤ y.1) : Srt (X ++ Y) := List.pairwise_append.2 ⟨h, k, hxy⟩
theorem Srt.left {X Y : List Fa} (h : Srt (X ++ Y)) : Srt X := (List.pairwise_append.1 h).1
theorem Srt.right {X Y : List Fa} (h : Srt (X ++ Y)) : Srt Y := (List.pairwise_append.1 h).2.1
theorem Srt.cross {X Y : List Fa} (h : Srt (X ++ Y)) : ∀ x ∈ X, ∀ y ∈ Y, x.1 ≤ y.1 := (List.pairwise_append.1 h).2.2

/-- four parts, put together crosswise -/
theorem merge_parts {X1 X2 Y1 Y2 Z1 Z2 : List Fa} (hX : Srt (X1 ++ X2)) (hY : Srt (Y1 ++ Y2)) (h21 : ∀ y ∈ Y1, ∀ x ∈ X2, y.1 < x.1) (h12 : ∀ x ∈ X1, ∀ y ∈ Y2, x.1 ≤ y.1)
    (hZ1 : Srt Z1) (s1 : StbF (X1 ++ Y1) Z1) (hZ2 : Srt Z2) (s2 : StbF (X2 ++ Y2) Z2) : Srt (Z1 ++ Z2) ∧ StbF (X1 ++ X2 ++ (Y1 ++ Y2)) (Z1 ++ Z2) := by
  refine ⟨hZ1.app hZ2 ?_, ?_⟩
  · intro x hx y hy
    have hx' := s1.symm.mem hx
    have hy' := s2.symm.mem hy
    rcases List.mem_append.1 hx' with ax | ax <;> rcases List.mem_append.1 hy' with ay | ay
    · exact hX.cross x ax y ay
    · exact h12 x ax y ay
    · exact Int.le_of_lt (h21 x ax y ay)
    · exact hY.cross x ax y ay
  · have e : StbF (X1 ++ X2 ++ (Y1 ++ Y2)) (X1 ++ Y1 ++ (X2 ++ Y2)) := by
      have h := StbF.swap (X := X2) (Y := Y1) fun x hx y hy e => by have := h21 y hy x hx; omega
      have h2 := ((StbF.refl X1).app h).app (StbF.refl Y2)
      simpa [List.append_assoc] using h2
    exact e.trans (s1.app s2)

/-! ### exchanges, as lists -/
theorem arr_at {d : Array Fa} {P Q : List Fa} {x : Fa} (h : d.toList = P ++ x :: Q) : d[P.length]! = x := by
  rw [getElem!_def, ← Array.getElem?_toList, h]
  simp
theorem arr_size {d : Array Fa} {P : List Fa} (h : d.toList = P) : d.size = P.length := by rw [← h]; simp
theorem swp_list {d : Array Fa} {P Q R : List Fa} {x y : Fa} {i j : Nat} (h : d.toList = P ++ x :: (Q ++ y :: R)) (hi : i = P.length) (hj : j = P.length + 1 + Q.length) :
    (swp d i j).toList = P ++ y :: (Q ++ x :: R) := by
  subst hi hj
  have e1 : d[P.length]! = x := arr_at h
  have e2 : d[P.length + 1 + Q.length]! = y := by
    have h2 : d.toList = (P ++ x :: Q) ++ y :: R := by rw [h]; simp
    have := arr_at h2
    simpa [Nat.add_comm, Nat.add_left_comm, Nat.add_assoc] using this
  unfold swp
  rw [e1, e2, Array.toList_setIfInBounds, Array.toList_setIfInBounds, h]
  have a : (P ++ x :: (Q ++ y :: R)).set P.length y = P ++ y :: (Q ++ y :: R) := by simp
  rw [a]
  have b : (P ++ y :: (Q ++ y :: R)).set (P.length + 1 + Q.length) x = P ++ y :: (Q ++ x :: R) := by
    rw [List.set_append_right _ _ (by omega), show P.length + 1 + Q.length - P.length = Q.length + 1 by omega, List.set_cons_succ, List.set_append_right _ _ (by omega)]
    simp
  rw [b]
theorem swp_comm (d : Array Fa) (i j : Nat) (hi : i < d.size) (hj : j < d.size) (hn : i ≠ j) : swp d i j = swp d j i := by
  apply Array.ext
  · simp [size_swp]
  · intro k h1 h2
    have a := swp_get d hi hj k
    have b := swp_get d hj hi k
    rw [getElem!_pos (swp d i j) k h1] at a
    rw [getElem!_pos (swp d j i) k h2] at b
    rw [a, b]
    by_cases e1 : k = j <;> by_cases e2 : k = i <;> simp [e1, e2] <;> simp_all

/-- n exchanges, from a and from b on -/
def swr (d : Array Fa) (a b : Nat) : Nat → Array Fa
  | 0 => d
  | n + 1 => swp (swr d a b n) (a + n) (b + n)
theorem size_swr (d : Array Fa) (a b : Nat) : ∀ n, (swr d a b n).size = d.size
  | 0 => rfl
  | n + 1 => by rw [swr, size_swp, size_swr d a b n]
theorem swr_list {d : Array Fa} {A X M Y B : List Fa} (h : d.toList = A ++ X ++ M ++ Y ++ B) (hl : X.length = Y.length) :
    ∀ k, k ≤ X.length → (swr d A.length (A.length + X.length + M.length) k).toList = A ++ Y.take k ++ X.drop k ++ M ++ X.take k ++ Y.drop k ++ B
  | 0, _ => by simpa [swr] using h
  | k + 1, hk => by
    have ih := swr_list h hl k (by omega)
    obtain ⟨x, hx⟩ : ∃ x, X[k]? = some x := ⟨X[k], by rw [List.getElem?_eq_getElem]⟩
    obtain ⟨y, hy⟩ : ∃ y, Y[k]? = some y := ⟨Y[k]'(by omega), by rw [List.getElem?_eq_getElem]⟩
    obtain ⟨hk1, hx1⟩ := List.getElem?_eq_some_iff.1 hx
    obtain ⟨hk2, hy1⟩ := List.getElem?_eq_some_iff.1 hy
    have ex : X.drop k = x :: X.drop (k + 1) := by rw [List.drop_eq_getElem_cons hk1, hx1]
    have ey : Y.drop k = y :: Y.drop (k + 1) := by rw [List.drop_eq_getElem_cons hk2, hy1]
    have tx : X.take (k + 1) = X.take k ++ [x] := by rw [List.take_add_one, hx]; rfl
    have ty : Y.take (k + 1) = Y.take k ++ [y] := by rw [List.take_add_one, hy]; rfl
    have h1 : (swr d A.length (A.length + X.length + M.length) k).toList = (A ++ Y.take k) ++ x :: ((X.drop (k + 1) ++ M ++ X.take k) ++ y :: (Y.drop (k + 1) ++ B)) := by
      rw [ih, ex, ey]; simp
    rw [swr, swp_list h1 (by simp; omega) (by simp; omega), tx, ty]
    simp
theorem swr_all {d : Array Fa} {A X M Y B : List Fa} {a b n : Nat} (h : d.toList = A ++ X ++ M ++ Y ++ B) (ha : a = A.length) (hb : b = A.length + X.length + M.length) (hn : n = X.length) (hl : X.length = Y.length) :
    (swr d a b n).toList = A ++ Y ++ M ++ X ++ B := by
  subst ha hb hn
  rw [swr_list h hl _ (Nat.le_refl _), hl, List.take_length, List.drop_length, ← hl, List.take_length, List.drop_length]
  simp

/-! ### the insertion sort -/
def cfF (x y : Fa) : Int := Lib.compareInt x.1 y.1
theorem ltF (x y : Fa) : Go.Proofs.ltOf cfF x y = decide (x.1 < y.1) := by
  unfold Go.Proofs.ltOf cfF Lib.compareInt
  by_cases h1 : x.1 < y.1
  · simp [h1]
  · by_cases h2 : y.1 < x.1 <;> simp [h1, h2]
theorem swoF : SWO (Go.Proofs.ltOf cfF) where
  irrefl x := by rw [ltF]; simp
  trans x y z h1 h2 := by rw [ltF] at *; simp at *; omega
  ntrans x y z h1 h2 := by rw [ltF] at *; simp at *; omega

theorem StbF.swp_next (d : Array Fa) (j : Nat) (hj : j + 1 < d.size) (hl : d[j + 1]!.1 < d[j]!.1) : StbF d.toList (swp d (j + 1) j).toList := by
  have hn : j + 1 < d.toList.length := by simpa using hj
  have e0 : d.toList = d.toList.take j ++ d.toList[j] :: ([] ++ d.toList[j + 1] :: d.toList.drop (j + 2)) := by
    rw [List.nil_append, ← List.drop_eq_getElem_cons hn, ← List.drop_eq_getElem_cons (by omega), List.take_append_drop]
  have l0 : (d.toList.take j).length = j := by rw [List.length_take]; omega
  have e1 := swp_list (i := j) (j := j + 1) e0 l0.symm (by rw [l0]; rfl)
  rw [swp_comm d (j + 1) j hj (by omega) (by omega), e1]
  have g1 : d[j + 1]! = d.toList[j + 1] := by rw [getElem!_pos d (j + 1) hj]; simp
  have g0 : d[j]! = d.toList[j] := by rw [getElem!_pos d j (by omega)]; simp
  rw [g0, g1] at hl
  generalize d.toList[j + 1] = u at hl e0 ⊢
  generalize d.toList[j] = v at hl e0 ⊢
  have h2 := ((StbF.refl (d.toList.take j)).app (StbF.swap (X := [v]) (Y := [u]) (fun x hx y hy => by simp at hx hy; subst hx hy; omega))).app (StbF.refl (d.toList.drop (j + 2)))
  have e2 : d.toList = d.toList.take j ++ ([v] ++ [u]) ++ d.toList.drop (j + 2) := e0.trans (by simp)
  rw [← e2] at h2
  refine h2.trans ?_
  simp [StbF.refl]
theorem StbF.insInner (a : Nat) : ∀ (j : Nat) (d : Array Fa), j < d.size → StbF d.toList (insInner (Go.Proofs.ltOf cfF) a j d).toList ∧ (insInner (Go.Proofs.ltOf cfF) a j d).size = d.size
  | 0, d, _ => ⟨StbF.refl _, rfl⟩
  | j + 1, d, hj => by
    rw [Go.Sort.insInner]
    split
    · rename_i h
      have hl : d[j + 1]!.1 < d[j]!.1 := by
        have := (Bool.and_eq_true _ _ ▸ h).2
        rw [ltF] at this
        simpa using this
      have ih := StbF.insInner a j (swp d (j + 1) j) (by rw [size_swp]; omega)
      exact ⟨(StbF.swp_next d j hj hl).trans ih.1, by rw [ih.2, size_swp]⟩
    · exact ⟨StbF.refl _, rfl⟩
theorem StbF.insOuter (a b : Nat) : ∀ (n i : Nat) (d : Array Fa), b - i ≤ n → b ≤ d.size → StbF d.toList (insOuter (Go.Proofs.ltOf cfF) a b i d).toList
  | 0, i, d, h, hb => by rw [insOuter_stop _ _ _ _ _ (by omega)]; exact StbF.refl _
  | n + 1, i, d, h, hb => by
    by_cases hi : i < b
    · have k := StbF.insInner a i d (by omega)
      rw [insOuter_go _ _ _ _ _ hi]
      exact k.1.trans (StbF.insOuter a b n (i + 1) _ (by omega) (by rw [k.2]; exact hb))
    · rw [insOuter_stop _ _ _ _ _ hi]; exact StbF.refl _

theorem split3 (l : List Fa) (a b : Nat) : l = l.take a ++ (l.drop a).take b ++ l.drop (a + b) := by
  rw [List.append_assoc, ← List.drop_drop, List.take_append_drop, List.take_append_drop]
/-- what it leaves, as lists -/
theorem ins_list {d : Array Fa} {A X B : List Fa} {a b : Nat} (h : d.toList = A ++ X ++ B) (ha : a = A.length) (hb : b = A.length + X.length) :
    ∃ X', (insertionSort (Go.Proofs.ltOf cfF) d a b).toList = A ++ X' ++ B ∧ X'.length = X.length ∧ Srt X' ∧ StbF X X' := by
  subst ha hb
  have hs : d.size = A.length + X.length + B.length := by rw [arr_size h]; simp; omega
  have hk := insertionSort_holds (lt := Go.Proofs.ltOf cfF) swoF d A.length (A.length + X.length) (by omega) (by omega)
  have hst : StbF d.toList (insertionSort (Go.Proofs.ltOf cfF) d A.length (A.length + X.length)).toList := StbF.insOuter _ _ _ _ d (Nat.le_refl _) (by omega)
  obtain ⟨⟨hz, hout, _⟩, hsrt⟩ := hk
  generalize insertionSort (Go.Proofs.ltOf cfF) d A.length (A.length + X.length) = d' at hz hout hsrt hst
  have hlen : d'.toList.length = A.length + X.length + B.length := by simp; omega
  have out : ∀ i, i < A.length ∨ A.length + X.length ≤ i → d'.toList[i]? = d.toList[i]? := by
    intro i hi
    have h1 := hout i hi
    rcases Nat.lt_or_ge i d.size with h2 | h2
    · rw [getElem!_pos d' i (by omega), getElem!_pos d i h2] at h1
      rw [Array.getElem?_toList, Array.getElem?_toList, Array.getElem?_eq_getElem (by omega), Array.getElem?_eq_getElem h2, h1]
    · rw [List.getElem?_eq_none (by simp; omega), List.getElem?_eq_none (by simp; omega)]
  have eA : d'.toList.take A.length = A := by
    apply List.ext_getElem?
    intro i
    rcases Nat.lt_or_ge i A.length with h1 | h1
    · rw [List.getElem?_take_of_lt h1, out i (Or.inl h1), h, List.append_assoc, List.getElem?_append_left h1]
    · rw [List.getElem?_eq_none (by simp; omega), List.getElem?_eq_none h1]
  have eB : d'.toList.drop (A.length + X.length) = B := by
    apply List.ext_getElem?
    intro i
    rw [List.getElem?_drop, out _ (Or.inr (by omega)), h, List.getElem?_append_right (by simp)]
    congr 1
    simp
  have e3 := split3 d'.toList A.length X.length
  rw [eA, eB] at e3
  refine ⟨_, e3, ?_, ?_, ?_⟩
  · rw [List.length_take, List.length_drop]; omega
  · refine List.pairwise_iff_getElem.2 ?_
    intro i j hi hj hij
    have hj' : j < X.length := by rw [List.length_take] at hj; omega
    have h1 := hsrt (A.length + i) (A.length + j) (by omega) (by omega) (by omega)
    rw [ltF] at h1
    have g : ∀ t (ht : t < X.length), d'[A.length + t]! = (d'.toList[A.length + t]'(by omega)) := fun t ht => by rw [getElem!_pos d' (A.length + t) (by omega)]; simp
    rw [g i (by omega), g j hj'] at h1
    simp only [List.getElem_take, List.getElem_drop]
    simp only [decide_eq_false_iff_not] at h1
    exact Int.not_lt.1 h1
  · rw [h, e3] at hst
    exact hst.cancel

end Go.Proofs.YtlijndkpgmbapaaGreatDoor

/- Contracts of package bits, as far as later layers lean on them: Zeros, Flip. -/
namespace Go.Proofs.YtlijndkpgmbapaaGreatDoor
set_option maxRecDepth 100000
open Go.RowKit

theorem flip_yes (s : ByteArray) (i j : Nat) (w : World) (hm : s.size ≤ 1000) (hi : i < s.size) (hj : j < 8) :
    Calls Tryz.prog 85 #[.string s, .int .i64 (8 * (i : Int) + j)] w fun e w' => e = .returned (.tuple #[.string (flipS s i j), .int .i64 0]) ∧ Below w.heap.size w w' := by
  have hq : (8 * (i : Int) + j) / 8 = i := by omega
  have hr : (8 * (i : Int) + j) % 8 = j := by omega
  obtain ⟨cap, W1, hcv, hb1, hcs, hfz, _⟩ := bytes_of (P := Tryz.prog) (src := 9) (dst := 106) (e := 5) Tryz.underlying9 Tryz.underlying106 Tryz.underlying5 s w
  obtain ⟨c, hcc⟩ : ∃ c, (nums s).getD i 0 = c := ⟨_, rfl⟩
  have hc := hcs i (by rw [nums_length]; exact hi)
  rw [hcc] at hc
  have hf := hfz i hi
  have hcb := fun x : Int => (BytesAt.drew (hcs.set i x)).conv (P := Tryz.prog) (src := 106) (e := 5) (dst := 9) Tryz.underlying106 Tryz.underlying5 Tryz.underlying9 s.size cap (len_set _ _ _ _ (nums_length s))
  have HC := Lib.hid hcc
  have HB := Lib.hid hb1
  clear hcs hfz hcc hb1
  go_enter Tryz.func85, Tryz.ntmps85
  go_wp2
  go_region
  go_wp2
  go_ret2
  exact ⟨ret_str (by unfold flipS; rw [HC.out]), (HB.out.setCell (Nat.le_refl _) _).drew⟩


end Go.Proofs.YtlijndkpgmbapaaGreatDoor

/- Geometries: what the document asks of Check, Snaps, Most, Raw, Bound, Spread, Number, At, and what follows from it. -/
namespace Go.Proofs.YtlijndkpgmbapaaGreatDoor
set_option maxRecDepth 100000
open Go.RowKit

/-- a geometry's cells, and an address's -/
def gv (b l y n s r : Int) : Array Value := #[.int .i64 b, .int .i64 l, .int .i64 y, .int .i64 n, .int .i64 s, .int .i64 r]
def av (x z p : Int) : Array Value := #[.int .i64 x, .int .i64 z, .int .i64 p]
def mostG (b l s : Int) : Int := 3 * l * (b - s - 6) / 2
def snapsG (b y n : Int) : Int := (6 * n + 10 * b + (y - 1)) / y
/-- what may be told of a geometry ahead of its sectors and its snapshot -/
def PreG (b l y n s r : Int) : Prop := 8 ≤ b ∧ b ≤ 64 ∧ 6 ≤ l ∧ l ≤ 64 ∧ 16 ≤ y ∧ y ≤ 256 ∧ y % 8 = 0 ∧ 0 ≤ s ∧ s ≤ 16 ∧ s ≤ b - 8 ∧ 2 ≤ r ∧ r ≤ 1000 ∧ 1 ≤ n ∧ n ≤ 4096
def OkG (b l y n s r : Int) : Prop := PreG b l y n s r ∧ n ≤ mostG b l s ∧ snapsG b y n ≤ l - 4
instance (b l y n s r : Int) : Decidable (PreG b l y n s r) := by unfold PreG; infer_instance
instance (b l y n s r : Int) : Decidable (OkG b l y n s r) := by unfold OkG; infer_instance
def chkG (b l y n s r : Int) : Int := if OkG b l y n s r then 0 else 60
def HasG (b l x z p : Int) : Prop := 0 ≤ x ∧ x < b ∧ 0 ≤ z ∧ z < l ∧ 0 ≤ p ∧ p < 3
instance (b l x z p : Int) : Decidable (HasG b l x z p) := by unfold HasG; infer_instance
/-- bounds of a product, for a walk that meets it -/
theorem mul_bd {a c A C : Int} (h0 : 0 ≤ a) (h1 : a ≤ A) (h2 : 0 ≤ c) (h3 : c ≤ C) : 0 ≤ a * c ∧ a * c ≤ A * C :=
  ⟨Int.mul_nonneg h0 h2, Int.mul_le_mul h1 h3 h2 (by omega)⟩
theorem pre_most {b l y n s r : Int} (h : PreG b l y n s r) : 0 ≤ 3 * l * (b - s - 6) ∧ 3 * l * (b - s - 6) ≤ 12000 := by
  obtain ⟨h1, h2, h3, h4, h5, h6, h7, h8, h9, h10, h11, h12, h13, h14⟩ := h
  have := mul_bd (a := 3 * l) (c := b - s - 6) (A := 192) (C := 58) (by omega) (by omega) (by omega) (by omega)
  omega
/-- so many pages are enough, and no fewer -/
theorem snaps_iff {b y n : Int} (hy : 1 ≤ y) (k : Int) : k * y < 6 * n + 10 * b ↔ k < snapsG b y n := by
  unfold snapsG
  constructor
  · intro h
    have : k + 1 ≤ (6 * n + 10 * b + (y - 1)) / y := by
      rw [Int.le_ediv_iff_mul_le (by omega), Int.add_mul]
      omega
    omega
  · intro h
    have h2 : k + 1 ≤ (6 * n + 10 * b + (y - 1)) / y := by omega
    rw [Int.le_ediv_iff_mul_le (by omega), Int.add_mul] at h2
    omega
theorem snaps_bd {b l y n s r : Int} (h : PreG b l y n s r) : 1 ≤ snapsG b y n ∧ snapsG b y n ≤ 1600 := by
  obtain ⟨h1, h2, h3, h4, h5, h6, h7, h8, h9, h10, h11, h12, h13, h14⟩ := h
  constructor
  · have := (snaps_iff (b := b) (y := y) (n := n) (by omega) 0).1 (by omega)
    omega
  · have h : ¬ 1600 < snapsG b y n := by
      intro hc
      have := (snaps_iff (b := b) (y := y) (n := n) (by omega) 1600).2 hc
      omega
    omega
end Go.Proofs.YtlijndkpgmbapaaGreatDoor

/- Layer 8: what is read of a state that was turned. -/
namespace Go.Proofs.YtlijndkpgmbapaaGreatDoor
set_option maxRecDepth 100000
open Go.RowKit

theorem put_page (s : St) (i j : Nat) (p : ByteArray) (h : Bool) (hi : i < s.ps.length) : pageAt (putSt s i p h) j = if j = i then p else pageAt s j := by
  unfold pageAt putSt
  simp only [List.getD_eq_getElem?_getD, List.getElem?_set]
  by_cases e : i = j
  · subst e; rw [if_pos rfl, if_pos hi, if_pos rfl]; rfl
  · rw [if_neg e, if_neg (Ne.symm e)]
theorem put_mark (s : St) (i j : Nat) (p : ByteArray) (h : Bool) (hi : i < s.hs.length) : (putSt s i p h).hs.getD j false = if j = i then h else s.hs.getD j false := by
  unfold putSt
  simp only [List.getD_eq_getElem?_getD, List.getElem?_set]
  by_cases e : i = j
  · subst e; rw [if_pos rfl, if_pos hi, if_pos rfl]; rfl
  · rw [if_neg e, if_neg (Ne.symm e)]
theorem ruin_lens (s t : St) (a b k : Int) : ∀ n, (ruinTo s t a b k n).ps.length = t.ps.length ∧ (ruinTo s t a b k n).hs.length = t.hs.length
  | 0 => ⟨rfl, rfl⟩
  | n + 1 => by
    have h := ruin_lens s t a b k n
    constructor
    · simp [ruinTo, putSt, h.1]
    · simp [ruinTo, putSt, h.2]
theorem ruin_page (s t : St) (a b k : Int) (j : Nat) : ∀ n, n ≤ t.ps.length → n ≤ t.hs.length → j < n → pageAt (ruinTo s t a b k n) j = ruinT s a b k j ∧ (ruinTo s t a b k n).hs.getD j false = true
  | 0, _, _, h => absurd h (Nat.not_lt_zero _)
  | n + 1, h1, h2, h => by
    have hl := ruin_lens s t a b k n
    have e1 := put_page (ruinTo s t a b k n) n j (ruinT s a b k n) true (by rw [hl.1]; omega)
    have e2 := put_mark (ruinTo s t a b k n) n j (ruinT s a b k n) true (by rw [hl.2]; omega)
    show pageAt (putSt _ _ _ _) j = _ ∧ (putSt _ _ _ _).hs.getD j false = true
    rw [e1, e2]
    by_cases e : j = n
    · subst e; rw [if_pos rfl, if_pos rfl]; exact ⟨rfl, rfl⟩
    · rw [if_neg e, if_neg e]; exact ruin_page s t a b k j n (by omega) (by omega) (by omega)
theorem end_same (s : St) (k : Int) : (endSt s k).L = s.L ∧ (endSt s k).Y = s.Y ∧ (endSt s k).mode = s.mode ∧ (endSt s k).done = s.done := by
  unfold endSt
  split
  · exact ⟨rfl, rfl, rfl, rfl⟩
  · split <;> exact ⟨rfl, rfl, rfl, rfl⟩
theorem full_of_size {p : ByteArray} {n : Nat} (h : p.size = n + 1) : ¬ p = ByteArray.empty := fun he => by rw [he] at h; exact absurd h (by simp)
theorem newSt_ok {l y : Nat} (h1 : 1 ≤ l) (h2 : l ≤ 64) (h3 : LenOk y) : WfSt (newSt l y) := by
  refine ⟨h1, h2, h3, Nat.zero_le _, by simp [newSt], by simp [newSt], fun j => ?_, Or.inl rfl, Nat.zero_le _, Nat.zero_le _⟩
  simp only [newSt, List.getD_eq_getElem?_getD, List.getElem?_replicate]
  split <;> simp

end Go.Proofs.YtlijndkpgmbapaaGreatDoor

/- Layer 8, the code: its lines, and what they have to do with what the document asks. -/
namespace Go.Proofs.YtlijndkpgmbapaaGreatDoor
set_option maxRecDepth 100000
open Go.RowKit

/-- a line: its three pages; was it hurt -/
structure Ln where
  p : ByteArray
  q : ByteArray
  r : ByteArray
  h : Bool
def Ln.pt (l : Ln) : Nat → ByteArray
  | 0 => l.p
  | 1 => l.q
  | _ => l.r
def l0 : Ln := ⟨ByteArray.empty, ByteArray.empty, ByteArray.empty, false⟩
def lnAt (ls : List Ln) (i : Nat) : Ln := ls.getD i l0
/-- a line, hurt -/
def hurtL (l : Ln) (a b : Int) : Ln := if l.h = true then l else ⟨hurtT l.p a b, hurtT l.q a b, hurtT l.r a b, true⟩
/-- a line that is written, by how it goes -/
def stepL (p q r : ByteArray) (k a b : Int) : Ln := if hurtsB k = true then ⟨hurtT p a b, hurtT q a b, hurtT r a b, true⟩ else ⟨p, q, r, false⟩
/-- a line as it is read -/
def lnTold (s : St) (ls : List Ln) (i : Nat) : Ln := if isFog s (3 * i) = true then hurtL (lnAt ls i) 0 0 else lnAt ls i
/-- a page as it lies -/
def lieT (s : St) (j : Nat) : ByteArray := if pageAt s j = ByteArray.empty then blankS s.Y else pageAt s j

/-- the code's lines are those of s -/
structure AbsC (s : St) (ls : List Ln) : Prop where
  len : ls.length = s.L
  size : ∀ i t, ((lnAt ls i).pt t).size ≤ 400
  one : ∀ i, i < s.L → (lnAt ls i).p = lieT s (3 * i) ∧ (lnAt ls i).h = s.hs.getD (3 * i) false
  all : s.mode ≠ 1 → ∀ i t, i < s.L → t < 3 → (lnAt ls i).pt t = lieT s (3 * i + t) ∧ (lnAt ls i).h = s.hs.getD (3 * i + t) false
  full : ∀ j, s.hs.getD j false = true → ¬ pageAt s j = ByteArray.empty
  zero : s.mode = 0 → s.done = 0
  fog : s.mode = 2 → ∀ i t, i < s.L → t < 3 → afterC s.L s.done i = 1 → ¬ pageAt s (3 * i + t) = ByteArray.empty

theorem fog_at (s : St) (i t : Nat) (ht : t < 3) : isFog s (3 * i + t) = isFog s (3 * i) := by
  unfold isFog
  rw [show (3 * i + t) / 3 = i by omega, show 3 * i / 3 = i by omega]
theorem hurtL_pt (l : Ln) (a b : Int) (t : Nat) : (hurtL l a b).pt t = if l.h = true then l.pt t else hurtT (l.pt t) a b := by
  unfold hurtL
  split
  · rfl
  · match t with
    | 0 => rfl
    | 1 => rfl
    | _ + 2 => rfl
theorem hurtL_h (l : Ln) (a b : Int) : (hurtL l a b).h = true := by
  unfold hurtL
  split
  · assumption
  · rfl
theorem stepL_pt (p q r : ByteArray) (k a b : Int) : (stepL p q r k a b).p = pageT p k a b ∧ (stepL p q r k a b).q = pageT q k a b ∧ (stepL p q r k a b).r = pageT r k a b ∧ (stepL p q r k a b).h = hurtsB k := by
  unfold stepL pageT
  split
  · rename_i h; exact ⟨rfl, rfl, rfl, h.symm⟩
  · rename_i h; exact ⟨rfl, rfl, rfl, by simpa using h⟩
theorem lnAt_set (ls : List Ln) (i j : Nat) (l : Ln) (hi : i < ls.length) : lnAt (ls.set i l) j = if j = i then l else lnAt ls j := by
  unfold lnAt
  simp only [List.getD_eq_getElem?_getD, List.getElem?_set]
  by_cases e : i = j
  · subst e; rw [if_pos rfl, if_pos hi, if_pos rfl]; rfl
  · rw [if_neg e, if_neg (Ne.symm e)]
theorem fullT {s : St} {p : ByteArray} (h : takesB s p = true) (k a b : Int) : ¬ pageT p k a b = ByteArray.empty := by
  intro he
  have h1 := pageT_size p k a b
  unfold takesB at h
  simp at h
  rw [he, h] at h1
  have : (ByteArray.empty).size = 0 := rfl
  unfold rawOf at h1
  omega

theorem AbsC.same {s t : St} {ls : List Ln} (h : AbsC s ls) (h1 : t.L = s.L) (h2 : t.Y = s.Y) (h3 : t.mode = s.mode) (h4 : t.done = s.done) (h5 : t.ps = s.ps) (h6 : t.hs = s.hs) : AbsC t ls := by
  obtain ⟨L, Y, mode, done, bad, torn, slc, tlc, ps, hs⟩ := s
  obtain ⟨L', Y', mode', done', bad', torn', slc', tlc', ps', hs'⟩ := t
  simp only at h1 h2 h3 h4 h5 h6
  subst h1 h2 h3 h4 h5 h6
  obtain ⟨a1, a2, a3, a4, a5, a6, a7⟩ := h
  exact ⟨a1, a2, a3, a4, a5, a6, a7⟩
theorem AbsC.ended {s : St} {ls : List Ln} (h : AbsC s ls) (k : Int) : AbsC (endSt s k) ls := by
  have e1 := end_same s k
  have e2 := endSt_ps s k
  exact h.same e1.1 e1.2.1 e1.2.2.1 e1.2.2.2 e2.1 e2.2

/-- at first -/
theorem AbsC.fresh {s : St} (hw : WfSt s) (h0 : s.mode = 0) (hd : s.done = 0) (hp : ∀ j, pageAt s j = ByteArray.empty) (hh : ∀ j, s.hs.getD j false = false) :
    AbsC s (List.replicate s.L ⟨blankS s.Y, blankS s.Y, blankS s.Y, false⟩) := by
  have hbl : (blankS s.Y).size ≤ 400 := by rw [blankS_size]; obtain ⟨h1, h2, h3⟩ := hw.y; omega
  have hl : ∀ i, i < s.L → lnAt (List.replicate s.L ⟨blankS s.Y, blankS s.Y, blankS s.Y, false⟩) i = ⟨blankS s.Y, blankS s.Y, blankS s.Y, false⟩ := by
    intro i hi
    unfold lnAt
    rw [List.getD_eq_getElem?_getD, List.getElem?_replicate, if_pos hi]; rfl
  refine ⟨by simp, fun i t => ?_, fun i hi => ?_, fun _ i t hi ht => ?_, fun j hj => ?_, fun _ => hd, fun h2 => ?_⟩
  · by_cases hi : i < s.L
    · rw [hl i hi]
      match t with
      | 0 => exact hbl
      | 1 => exact hbl
      | _ + 2 => exact hbl
    · unfold lnAt
      rw [List.getD_eq_getElem?_getD, List.getElem?_replicate, if_neg hi]
      match t with
      | 0 => exact Nat.zero_le _
      | 1 => exact Nat.zero_le _
      | _ + 2 => exact Nat.zero_le _
  · rw [hl i hi, hh]
    unfold lieT
    rw [if_pos (hp _)]
    exact ⟨rfl, rfl⟩
  · rw [hl i hi, hh]
    unfold lieT
    rw [if_pos (hp _)]
    refine ⟨?_, rfl⟩
    match t with
    | 0 => rfl
    | 1 => rfl
    | _ + 2 => rfl
  · rw [hh] at hj; cases hj
  · rw [h0] at h2; cases h2

/-- what is read -/
theorem AbsC.read1 {s : St} {ls : List Ln} (h : AbsC s ls) (i t : Nat) (hi : i < s.L) (ht : t < 3) (hm : s.mode ≠ 1 ∨ t = 0) : (lnTold s ls i).pt t = atT s (3 * i + t) ∧ (lnTold s ls i).h = atH s (3 * i + t) := by
  have hb : (lnAt ls i).pt t = lieT s (3 * i + t) ∧ (lnAt ls i).h = s.hs.getD (3 * i + t) false := by
    rcases hm with hm | rfl
    · exact h.all hm i t hi ht
    · exact h.one i hi
  have hfull := h.full (3 * i + t)
  have hfog : isFog s (3 * i) = true → ¬ pageAt s (3 * i + t) = ByteArray.empty := by
    intro hf
    unfold isFog at hf
    rw [Bool.and_eq_true, beq_iff_eq, beq_iff_eq, show 3 * i / 3 = i by omega] at hf
    exact h.fog hf.1 i t hi ht hf.2
  unfold lnTold atT atH
  rw [fog_at s i t ht]
  unfold lieT at hb
  by_cases he : pageAt s (3 * i + t) = ByteArray.empty
  · have hf : isFog s (3 * i) = false := by
      cases hq : isFog s (3 * i)
      · rfl
      · exact absurd he (hfog hq)
    have hh : s.hs.getD (3 * i + t) false = false := by
      cases hq : s.hs.getD (3 * i + t) false
      · rfl
      · exact absurd he (hfull hq)
    rw [if_pos he] at hb
    rw [hf, if_neg (by simp), if_pos he, if_pos he, hb.1, hb.2, hh]
    exact ⟨rfl, rfl⟩
  · rw [if_neg he] at hb
    rw [if_neg he, if_neg he]
    cases hh : s.hs.getD (3 * i + t) false with
    | true =>
      rw [hh] at hb
      rw [if_pos rfl, if_pos rfl]
      split
      · rw [hurtL_pt, if_pos hb.2, hb.1, hurtL_h]; exact ⟨rfl, rfl⟩
      · exact hb
    | false =>
      rw [hh] at hb
      cases hf : isFog s (3 * i) with
      | true =>
        simp only [Bool.false_eq_true, if_false, if_true]
        rw [hurtL_pt, hb.2, if_neg (by simp), hb.1, hurtL_h]; exact ⟨rfl, rfl⟩
      | false =>
        simp only [Bool.false_eq_true, if_false]
        exact hb

/-- .. what is programmed -/
theorem AbsC.prog {s : St} {ls : List Ln} (h : AbsC s ls) (hw : WfSt s) {line : Int} {p : ByteArray} (hok : ProgOk s line p) (k a b : Int) :
    AbsC (progSt s line p k a b) (ls.set line.toNat (stepL p ByteArray.empty ByteArray.empty k a b)) := by
  unfold progSt
  rw [if_pos hok]
  obtain ⟨k1, k2, k3, k4, k5, k6⟩ := hok
  apply AbsC.ended
  obtain ⟨n, hn⟩ : ∃ n, line.toNat = n := ⟨_, rfl⟩
  rw [hn]
  have hnL : n < s.L := by omega
  have hst := stepL_pt p ByteArray.empty ByteArray.empty k a b
  have hps : 3 * n < (stepSt s 1).ps.length := by show 3 * n < s.ps.length; rw [hw.psl]; omega
  have hhs : 3 * n < (stepSt s 1).hs.length := by show 3 * n < s.hs.length; rw [hw.hsl]; omega
  have hpg := fun j => put_page (stepSt s 1) (3 * n) j (pageT p k a b) (hurtsB k) hps
  have hmk := fun j => put_mark (stepSt s 1) (3 * n) j (pageT p k a b) (hurtsB k) hhs
  have hln := fun j => lnAt_set ls n j (stepL p ByteArray.empty ByteArray.empty k a b) (by rw [h.len]; exact hnL)
  have hfl := fullT k6 k a b
  have hsz := takes_size hw k6
  have he0 : ∀ k a b, (pageT ByteArray.empty k a b).size ≤ 400 := fun k a b => by rw [pageT_size]; exact Nat.zero_le _
  refine ⟨by simp [putSt, stepSt, h.len], fun i t => ?_, fun i hi => ?_, fun hm => absurd rfl hm, fun j hj => ?_, fun hm => absurd (show (1 : Int) = 0 from hm) (by decide), fun hm => absurd (show (1 : Int) = 2 from hm) (by decide)⟩
  · rw [hln]
    split
    · match t with
      | 0 => show (stepL _ _ _ _ _ _).p.size ≤ 400; rw [hst.1, pageT_size]; exact hsz
      | 1 => show (stepL _ _ _ _ _ _).q.size ≤ 400; rw [hst.2.1]; exact he0 _ _ _
      | _ + 2 => show (stepL _ _ _ _ _ _).r.size ≤ 400; rw [hst.2.2.1]; exact he0 _ _ _
    · exact h.size i t
  · have hi2 : i < s.L := hi
    unfold lieT
    rw [hln, hpg, hmk]
    by_cases e : i = n
    · subst e
      simp only [if_true, hfl, if_false]
      exact ⟨hst.1, hst.2.2.2⟩
    · have e3 : ¬ 3 * i = 3 * n := by omega
      simp only [e, e3, if_false]
      exact h.one i hi2
  · rw [hpg]
    rw [hmk] at hj
    split
    · exact hfl
    · rename_i e
      rw [if_neg e] at hj
      exact h.full j hj

theorem put3_three (s : St) (i : Nat) (p q r : ByteArray) (k a b : Int) (j : Nat) (h1 : i + 2 < s.ps.length) (h2 : i + 2 < s.hs.length) :
    pageAt (put3 s i p q r k a b 3) j = (if j = i + 2 then pageT r k a b else if j = i + 1 then pageT q k a b else if j = i then pageT p k a b else pageAt s j)
    ∧ (put3 s i p q r k a b 3).hs.getD j false = (if j = i + 2 ∨ j = i + 1 ∨ j = i then hurtsB k else s.hs.getD j false) := by
  show pageAt (putSt (putSt (putSt s i (pageT p k a b) (hurtsB k)) (i + 1) (pageT q k a b) (hurtsB k)) (i + 2) (pageT r k a b) (hurtsB k)) j = _
    ∧ (putSt (putSt (putSt s i (pageT p k a b) (hurtsB k)) (i + 1) (pageT q k a b) (hurtsB k)) (i + 2) (pageT r k a b) (hurtsB k)).hs.getD j false = _
  rw [put_page _ _ _ _ _ (by simp [putSt]; omega), put_page _ _ _ _ _ (by simp [putSt]; omega), put_page _ _ _ _ _ (by omega),
    put_mark _ _ _ _ _ (by simp [putSt]; omega), put_mark _ _ _ _ _ (by simp [putSt]; omega), put_mark _ _ _ _ _ (by omega)]
  refine ⟨rfl, ?_⟩
  by_cases e2 : j = i + 2
  · rw [if_pos e2, if_pos (Or.inl e2)]
  · rw [if_neg e2]
    by_cases e1 : j = i + 1
    · rw [if_pos e1, if_pos (Or.inr (Or.inl e1))]
    · rw [if_neg e1]
      by_cases e0 : j = i
      · rw [if_pos e0, if_pos (Or.inr (Or.inr e0))]
      · rw [if_neg e0, if_neg (by omega)]

/-- .. in two passes -/
theorem AbsC.two {s : St} {ls : List Ln} (h : AbsC s ls) (hw : WfSt s) {line : Int} {p q r : ByteArray} {f : Bool} (hok : TwoOk s line p q r f) (k a b : Int) :
    AbsC (twoSt s line p q r f k a b) (ls.set line.toNat (stepL p q r k a b)) := by
  unfold twoSt
  rw [if_pos hok]
  obtain ⟨k1, k2, k3, k4, k5, k6, k7, k8, k9, k10⟩ := hok
  apply AbsC.ended
  obtain ⟨n, hn⟩ : ∃ n, line.toNat = n := ⟨_, rfl⟩
  rw [hn]
  have hst1 := place_step k4
  have hn1 : (stepC s.L s.done).1 = n := by omega
  have hnL : n < s.L := by omega
  have hst := stepL_pt p q r k a b
  have hps : 3 * n + 2 < (stepSt s 2).ps.length := by show 3 * n + 2 < s.ps.length; rw [hw.psl]; omega
  have hhs : 3 * n + 2 < (stepSt s 2).hs.length := by show 3 * n + 2 < s.hs.length; rw [hw.hsl]; omega
  have hpt := fun j => put3_three (stepSt s 2) (3 * n) p q r k a b j hps hhs
  obtain ⟨S, hS⟩ : ∃ S, put3 (stepSt s 2) (3 * n) p q r k a b 3 = S := ⟨_, rfl⟩
  have hSf : S.L = s.L ∧ S.Y = s.Y ∧ S.mode = 2 ∧ S.done = s.done + 1 := by rw [← hS]; exact ⟨rfl, rfl, rfl, rfl⟩
  rw [hS] at hpt ⊢
  have hln := fun j => lnAt_set ls n j (stepL p q r k a b) (by rw [h.len]; exact hnL)
  have f7 := fullT k7 k a b
  have f8 := fullT k8 k a b
  have f9 := fullT k9 k a b
  have s7 := takes_size hw k7
  have s8 := takes_size hw k8
  have s9 := takes_size hw k9
  have hps0 : ∀ j, pageAt (stepSt s 2) j = pageAt s j := fun _ => rfl
  have hhs0 : ∀ j, (stepSt s 2).hs.getD j false = s.hs.getD j false := fun _ => rfl
  have hall : ∀ i t, i < s.L → t < 3 → (lnAt (ls.set n (stepL p q r k a b)) i).pt t = lieT S (3 * i + t) ∧ (lnAt (ls.set n (stepL p q r k a b)) i).h = S.hs.getD (3 * i + t) false := by
    intro i t hi ht
    unfold lieT
    rw [hln, (hpt _).1, (hpt _).2, hSf.2.1]
    by_cases e : i = n
    · subst e
      rw [if_pos rfl]
      match t, ht with
      | 0, _ =>
        have b2 : ¬ 3 * i = 3 * i + 2 := by omega
        have b1 : ¬ 3 * i = 3 * i + 1 := by omega
        simp only [Nat.add_zero, b2, b1, if_false, if_true, false_or, f7]
        exact ⟨hst.1, hst.2.2.2⟩
      | 1, _ =>
        have b2 : ¬ 3 * i + 1 = 3 * i + 2 := by omega
        simp only [b2, if_false, if_true, false_or, true_or, f8]
        exact ⟨hst.2.1, hst.2.2.2⟩
      | 2, _ =>
        simp only [if_true, if_false, true_or, f9]
        exact ⟨hst.2.2.1, hst.2.2.2⟩
    · have a2 : ¬ 3 * i + t = 3 * n + 2 := by omega
      have a1 : ¬ 3 * i + t = 3 * n + 1 := by omega
      have a0 : ¬ 3 * i + t = 3 * n := by omega
      simp only [e, a2, a1, a0, or_self, if_false]
      exact h.all k3 i t hi ht
  refine ⟨by simp [hSf.1, h.len], fun i t => ?_, fun i hi => ?_, fun _ i t hi ht => hall i t (by rw [← hSf.1]; exact hi) ht, fun j hj => ?_, fun hm => absurd (hm.symm.trans hSf.2.2.1) (by decide), fun _ i t hi ht haf => ?_⟩
  · rw [hln]
    split
    · match t with
      | 0 => show (stepL _ _ _ _ _ _).p.size ≤ 400; rw [hst.1, pageT_size]; exact s7
      | 1 => show (stepL _ _ _ _ _ _).q.size ≤ 400; rw [hst.2.1, pageT_size]; exact s8
      | _ + 2 => show (stepL _ _ _ _ _ _).r.size ≤ 400; rw [hst.2.2.1, pageT_size]; exact s9
    · exact h.size i t
  · exact hall i 0 (by rw [← hSf.1]; exact hi) (by omega)
  · rw [(hpt j).2] at hj
    rw [(hpt j).1]
    by_cases e : j = 3 * n + 2 ∨ j = 3 * n + 1 ∨ j = 3 * n
    · split
      · exact f9
      · split
        · exact f8
        · split
          · exact f7
          · omega
    · rw [if_neg e, hhs0] at hj
      have a2 : ¬ j = 3 * n + 2 := by omega
      have a1 : ¬ j = 3 * n + 1 := by omega
      have a0 : ¬ j = 3 * n := by omega
      simp only [a2, a1, a0, if_false, hps0]
      exact h.full j hj
  · rw [hSf.1] at hi
    rw [hSf.1, hSf.2.2.2, after_succ k4 hi, hn1] at haf
    rw [(hpt _).1]
    by_cases e : i = n
    · subst e
      match t, ht with
      | 0, _ =>
        have b2 : ¬ 3 * i = 3 * i + 2 := by omega
        have b1 : ¬ 3 * i = 3 * i + 1 := by omega
        simp only [Nat.add_zero, b2, b1, if_false, if_true]; exact f7
      | 1, _ =>
        have b2 : ¬ 3 * i + 1 = 3 * i + 2 := by omega
        simp only [b2, if_false, if_true]; exact f8
      | 2, _ =>
        simp only [if_true]; exact f9
    · rw [if_neg (Ne.symm e)] at haf
      have a2 : ¬ 3 * i + t = 3 * n + 2 := by omega
      have a1 : ¬ 3 * i + t = 3 * n + 1 := by omega
      have a0 : ¬ 3 * i + t = 3 * n := by omega
      simp only [a2, a1, a0, if_false, hps0]
      rcases hw.mode with h0 | h0 | h0
      · rw [h.zero h0, after_none] at haf
        exact absurd haf (by decide)
      · exact absurd h0 k3
      · exact h.fog h0 i t hi ht haf

theorem blankS_full {n : Nat} (h : LenOk n) : ¬ blankS n = ByteArray.empty := by
  have h1 := blankS_size n
  obtain ⟨h2, _, _⟩ := h
  exact full_of_size (n := (n + 24) / 8 * 9 - 1) (by omega)
theorem hurtT_full {p : ByteArray} (a b : Int) (h : ¬ p = ByteArray.empty) : ¬ hurtT p a b = ByteArray.empty := by
  intro he
  have h1 := hurtT_size p a b
  rw [he] at h1
  exact h (ByteArray.size_eq_zero_iff.1 h1.symm)
theorem atT_full {s : St} (hw : WfSt s) (j : Nat) : ¬ atT s j = ByteArray.empty := by
  unfold atT
  split
  · exact blankS_full hw.y
  · rename_i h
    split
    · exact h
    · split
      · exact hurtT_full 0 0 h
      · exact h
theorem more_all (s : St) : (moreSt s).L = s.L ∧ (moreSt s).Y = s.Y ∧ (moreSt s).ps = s.ps ∧ (moreSt s).hs = s.hs ∧ (moreSt s).mode = s.mode ∧ (moreSt s).done = s.done := by
  unfold moreSt
  split <;> exact ⟨rfl, rfl, rfl, rfl, rfl, rfl⟩
theorem AbsC.more {s : St} {ls : List Ln} (h : AbsC s ls) : AbsC (moreSt s) ls := by
  have e := more_all s
  exact h.same e.1 e.2.1 e.2.2.2.2.1 e.2.2.2.2.2 e.2.2.1 e.2.2.2.1
theorem slc_all (s : St) : (slcSt s).L = s.L ∧ (slcSt s).Y = s.Y ∧ (slcSt s).ps = s.ps ∧ (slcSt s).hs = s.hs ∧ (slcSt s).mode = (if s.mode = 0 then 1 else s.mode) ∧ (slcSt s).done = s.done := by
  unfold slcSt
  split <;> exact ⟨rfl, rfl, rfl, rfl, rfl, rfl⟩
theorem ruin_all (s t : St) (a b k : Int) : ∀ n, (ruinTo s t a b k n).L = t.L ∧ (ruinTo s t a b k n).Y = t.Y ∧ (ruinTo s t a b k n).mode = t.mode ∧ (ruinTo s t a b k n).done = t.done
  | 0 => ⟨rfl, rfl, rfl, rfl⟩
  | n + 1 => ruin_all s t a b k n
theorem lnTold_size {s : St} {ls : List Ln} (h : AbsC s ls) (i t : Nat) : ((lnTold s ls i).pt t).size ≤ 400 := by
  unfold lnTold
  split
  · rw [hurtL_pt]
    split
    · exact h.size i t
    · rw [hurtT_size]; exact h.size i t
  · exact h.size i t
/-- .. and what is erased, cut or failing -/
theorem AbsC.ruin {s : St} {ls ls' : List Ln} (h : AbsC s ls) (hw : WfSt s) (hb : s.bad = false) (k a b : Int) (hk : hurtsB k = true) (hl : ls'.length = s.L) (hln : ∀ i, i < s.L → lnAt ls' i = hurtL (lnTold s ls i) a b) :
    AbsC (eraseSt s k a b) ls' := by
  unfold eraseSt
  rw [if_neg (by rw [hb]; simp), if_pos hk]
  apply AbsC.ended
  have hma := more_all s
  have hM : AbsC (moreSt s) ls := h.more
  have hat : ∀ j, atT (moreSt s) j = atT s j ∧ atH (moreSt s) j = atH s j := by
    intro j
    unfold atT atH isFog pageAt
    rw [hma.1, hma.2.1, hma.2.2.1, hma.2.2.2.1, hma.2.2.2.2.1, hma.2.2.2.2.2]
    exact ⟨rfl, rfl⟩
  have hwm : ∀ j, ¬ ruinT (moreSt s) a b k j = ByteArray.empty := by
    intro j
    unfold ruinT pageT
    rw [(hat j).1, (hat j).2, if_pos hk]
    split
    · exact atT_full hw j
    · exact hurtT_full a b (atT_full hw j)
  have hru : ∀ j, ruinT (moreSt s) a b k j = if atH s j = true then atT s j else hurtT (atT s j) a b := by
    intro j
    unfold ruinT pageT
    rw [(hat j).1, (hat j).2, if_pos hk]
  obtain ⟨R, hR⟩ : ∃ R, ruinTo (moreSt s) (moreSt s) a b k (3 * s.L) = R := ⟨_, rfl⟩
  have hRa := ruin_all (moreSt s) (moreSt s) a b k (3 * s.L)
  have hRp := fun j => ruin_page (moreSt s) (moreSt s) a b k j (3 * s.L) (by rw [hma.2.2.1, hw.psl]; exact Nat.le_refl _) (by rw [hma.2.2.2.1, hw.hsl]; exact Nat.le_refl _)
  have hRl := ruin_lens (moreSt s) (moreSt s) a b k (3 * s.L)
  rw [hR] at hRa hRp hRl ⊢
  have hSa := slc_all R
  have hRL : R.L = s.L := hRa.1.trans hma.1
  have hpp : ∀ j, j < 3 * s.L → pageAt (slcSt R) j = ruinT (moreSt s) a b k j ∧ (slcSt R).hs.getD j false = true := by
    intro j hj
    unfold pageAt
    rw [hSa.2.2.1, hSa.2.2.2.1]
    exact hRp j hj
  have hml : (slcSt R).mode = if s.mode = 0 then 1 else s.mode := by rw [hSa.2.2.2.2.1, hRa.2.2.1, hma.2.2.2.2.1]
  have hLL : (slcSt R).L = s.L := hSa.1.trans hRL
  have key : ∀ i t, i < s.L → t < 3 → (s.mode ≠ 1 ∨ t = 0) → (lnAt ls' i).pt t = lieT (slcSt R) (3 * i + t) ∧ (lnAt ls' i).h = (slcSt R).hs.getD (3 * i + t) false := by
    intro i t hi ht hm
    have hrd := h.read1 i t hi ht hm
    have hp := hpp (3 * i + t) (by omega)
    unfold lieT
    rw [hln i hi, hurtL_pt, hurtL_h, hp.1, hp.2, if_neg (hwm _), hru, hrd.1, hrd.2]
    exact ⟨rfl, rfl⟩
  refine ⟨hl.trans hLL.symm, fun i t => ?_, fun i hi => key i 0 (by rw [← hLL]; exact hi) (by omega) (Or.inr rfl), fun hm i t hi ht => key i t (by rw [← hLL]; exact hi) ht (Or.inl fun h1 => hm (by rw [hml, h1]; rfl)), fun j hj => ?_, fun h0 => ?_, fun _ i t hi ht _ => ?_⟩
  · by_cases hi : i < s.L
    · rw [hln i hi, hurtL_pt]
      split
      · exact lnTold_size h i t
      · rw [hurtT_size]; exact lnTold_size h i t
    · have he : lnAt ls' i = l0 := by
        unfold lnAt
        rw [List.getD_eq_getElem?_getD, List.getElem?_eq_none (by omega)]; rfl
      rw [he]
      match t with
      | 0 => exact Nat.zero_le _
      | 1 => exact Nat.zero_le _
      | _ + 2 => exact Nat.zero_le _
  · by_cases hj3 : j < 3 * s.L
    · rw [(hpp j hj3).1]; exact hwm j
    · exfalso
      rw [hSa.2.2.2.1, List.getD_eq_getElem?_getD, List.getElem?_eq_none (by rw [hRl.2, hma.2.2.2.1, hw.hsl]; omega)] at hj
      cases hj
  · exfalso
    rw [hml] at h0
    split at h0
    · cases h0
    · contradiction
  · rw [(hpp _ (by rw [hLL] at hi; omega)).1]; exact hwm _
/-- .. and where it goes well -/
theorem AbsC.clean {s : St} (hw : WfSt s) (hb : s.bad = false) (k a b : Int) (hk : hurtsB k = false) (h1 : s.slc < 1000000000) (h2 : s.tlc < 1000000000) :
    AbsC (eraseSt s k a b) (List.replicate s.L ⟨blankS s.Y, blankS s.Y, blankS s.Y, false⟩) := by
  have hwe := eraseSt_wf hw k a b h1 h2
  have he : eraseSt s k a b = { newSt s.L s.Y with slc := (moreSt s).slc, tlc := (moreSt s).tlc } := by
    unfold eraseSt
    rw [if_neg (by rw [hb]; simp), if_neg (by rw [hk]; simp)]
  rw [he] at hwe ⊢
  refine AbsC.fresh (s := { newSt s.L s.Y with slc := (moreSt s).slc, tlc := (moreSt s).tlc }) hwe rfl rfl (fun j => ?_) (fun j => ?_)
  · unfold pageAt newSt
    simp only [List.getD_eq_getElem?_getD, List.getElem?_replicate]
    split <;> rfl
  · unfold newSt
    simp only [List.getD_eq_getElem?_getD, List.getElem?_replicate]
    split <;> rfl
theorem AbsC.new {l y : Nat} (hw : WfSt (newSt l y)) : AbsC (newSt l y) (List.replicate l ⟨blankS y, blankS y, blankS y, false⟩) := by
  refine AbsC.fresh (s := newSt l y) hw rfl rfl (fun j => ?_) (fun j => ?_)
  · unfold pageAt newSt
    simp only [List.getD_eq_getElem?_getD, List.getElem?_replicate]
    split <;> rfl
  · unfold newSt
    simp only [List.getD_eq_getElem?_getD, List.getElem?_replicate]
    split <;> rfl

end Go.Proofs.YtlijndkpgmbapaaGreatDoor

/- Calls that change a cell of the code's: what else they leave as it was. -/
namespace Go.Proofs.YtlijndkpgmbapaaGreatDoor
set_option maxRecDepth 100000
open Go.RowKit

/-- nothing that was there turns but for blocks of F -/
structure Only (F : Nat → Prop) (w w' : World) : Prop where
  os : w'.os = w.os
  tape : w'.tape = w.tape
  output : w'.output = w.output
  size : w.heap.size ≤ w'.heap.size
  block : ∀ k, k < w.heap.size → ¬ F k → w'.heap[k]? = w.heap[k]?
theorem Only.refl (F : Nat → Prop) (w : World) : Only F w w := ⟨rfl, rfl, rfl, Nat.le_refl _, fun _ _ _ => rfl⟩
theorem Only.of_below {F : Nat → Prop} {w w' : World} (h : Below w.heap.size w w') : Only F w w' := ⟨h.os, h.tape, h.output, h.size, fun k hk _ => h.block k hk⟩
theorem Only.below {F : Nat → Prop} {w w' : World} {B : Nat} (h : Only F w w') (hB : B ≤ w.heap.size) (hF : ∀ k, F k → B ≤ k) : Below B w w' :=
  ⟨h.os, h.tape, h.output, h.size, fun k hk => h.block k (by omega) (fun hf => by have := hF k hf; omega)⟩
theorem Only.trans {F F' : Nat → Prop} {w w' w'' : World} (h : Only F w w') (h' : Only F' w' w'') (hF : ∀ k, F' k → F k ∨ w.heap.size ≤ k) : Only F w w'' :=
  ⟨h'.os.trans h.os, h'.tape.trans h.tape, h'.output.trans h.output, Nat.le_trans h.size h'.size, fun k hk hn =>
    (h'.block k (by have := h.size; omega) (fun hf => (hF k hf).elim hn (fun h2 => by omega))).trans (h.block k hk hn)⟩
theorem Blk.only {F : Nat → Prop} {w w' : World} {b : Nat} {cs : Array Value} {t : TypeId} (h : Blk w b cs t) (ho : Only F w w') (hb : ¬ F b) : Blk w' b cs t := by
  have hl := h.lt
  unfold Blk at *
  rw [ho.block b hl hb]; exact h
theorem RAt.only {F : Nat → Prop} {w w' : World} {s : St} {g c h d : Nat} (hr : RAt w s g c h d) (hw : WfSt s) (ho : Only F w w') (hg : ¬ F g) (hh : ¬ F h) : RAt w' s g c h d :=
  hr.keep (ho.block g (hr.lt hw).1 hg) (ho.block h (hr.lt hw).2 hh)
/-- where a cell's blocks go: they stay, or are new -/
def Grows (F F' : Nat → Prop) (w : World) : Prop := ∀ k, F' k → F k ∨ w.heap.size ≤ k

end Go.Proofs.YtlijndkpgmbapaaGreatDoor

/- A range over a function in a plain walk: the loop's law, how a function that holds one leaves, what a round keeps. -/
namespace Go.Proofs.YtlijndkpgmbapaaGreatDoor
open Go.RowKit

/-- a function that holds a range over a function: its contract from its body -/
theorem calls_of_marks {P : Program} {f : FuncId} {fn : Func} {c : Code} {args : Array Value} {w : World} {R : Ending → World → Prop} (hf : P.funcs[f]? = some fn) (hb : fn.body = some c)
    (h : c.wp P (bodyPostM Fence.wide 9 P fn R) { tmps := args ++ Array.replicate (fn.ntmps - args.size) undef, defers := [] } w) : Calls P f args w R :=
  callsIn_wide.1 (callsIn_of_wp_marks (n := 9) hf hb trivial (wpIn_wide.2 h))
/-- it leaves ahead of its loop -/
theorem leave_none {P : Program} {fn : Func} {R : Ending → World → Prop} {a : Act} {w : World} {v : Value} (hd : a.defers = []) (hr : (results fn a.tmps).run P w = .ok v w) (h : R (.returned v) w) : bodyPostM Fence.wide 9 P fn R .ret a w := by
  show LeavesInM Fence.wide 9 P fn a.tmps R a.defers .returning w
  rw [hd]
  exact ⟨v, hr, h⟩
/-- it leaves behind its loop -/
theorem leave_one {P : Program} {fn : Func} {R : Ending → World → Prop} {a : Act} {w : World} {v : Value} {D : Nat} (hd : a.defers = [{ target := .collected D, args := #[] }]) (hK : w.heap[D]? = some (.deferred (some [])))
    (hr : (results fn a.tmps).run P (w.putObj D (.deferred none)) = .ok v (w.putObj D (.deferred none))) (h : R (.returned v) (w.putObj D (.deferred none))) : bodyPostM Fence.wide 9 P fn R .ret a w := by
  show LeavesInM Fence.wide 9 P fn a.tmps R a.defers .returning w
  rw [hd]
  exact ⟨by simp, .inl ⟨_, _, rfl, run_takeDeferred hK, v, hr, h⟩⟩
theorem below_mark {w W : World} {D : Nat} (h : Below w.heap.size w W) (hD : w.heap.size ≤ D) (hK : W.heap[D]? = some (.deferred (some []))) : Below w.heap.size w (W.putObj D (.deferred none)) :=
  h.trans (belowK_b (w := w) (Nat.le_refl _) W D _ _ hD hK rfl rfl)
/-- what a round keeps, by what it leaves alone -/
theorem keeps_of_below {W W' : World} (B : Nat) (h : Below W.heap.size W W') : KeepsFrom B W W' :=
  ⟨h.size, fun k _ _ hk _ => (h.block k (Array.getElem?_eq_some_iff.1 hk).1).trans hk⟩
theorem keeps_set {W : World} (B : Nat) (a : Addr) (v : Value) : KeepsFrom B W (W.setCell a v) := (KeepsOthers.setCell W a v).from B
theorem blk_kept {W W' : World} {row : Option Nat} {b : Nat} {cs : Array Value} {t : TypeId} (h : Blk W b cs t) (hg : W.grownBy W' row) (hr : ∀ r, row = some r → ∃ o : Obj, W.heap[r]? = some o ∧ o.isCells = false) : Blk W' b cs t :=
  (hg.block b h.lt (fun e => by
    obtain ⟨o, ho, hc⟩ := hr b e.symm
    rw [show W.heap[b]? = _ from h] at ho
    cases ho
    cases hc)).trans h
theorem blk_mark {W : World} {D b : Nat} {cs : Array Value} {t : TypeId} (h : Blk W b cs t) (hK : W.heap[D]? = some (.deferred (some []))) : Blk (W.putObj D (.deferred none)) b cs t :=
  blk_kept h (grownBy_putObj' W D (.deferred none)) (fun r e => by cases e; exact ⟨_, hK, rfl⟩)

/-- these blocks lie as they lay: what an iterator that reads its own captured variables asks of a round -/
def KeepB (bs : List Nat) (W W' : World) : Prop := ∀ b ∈ bs, W'.heap[b]? = W.heap[b]?
theorem KeepB.refl (bs : List Nat) (W : World) : KeepB bs W W := fun _ _ => rfl
theorem KeepB.trans {bs : List Nat} {A B C : World} (h : KeepB bs A B) (k : KeepB bs B C) : KeepB bs A C := fun b hb => (k b hb).trans (h b hb)
theorem KeepB.cell {bs : List Nat} {W W' : World} (h : KeepB bs W W') {b i : Nat} (hb : b ∈ bs) : W'.cell? ⟨b, i, none⟩ = W.cell? ⟨b, i, none⟩ := by simp [World.cell?, h b hb]
theorem KeepB.of_below {bs : List Nat} {B : Nat} {W W' : World} (h : Below B W W') (hb : ∀ b ∈ bs, b < B) : KeepB bs W W' := fun b hm => h.block b (hb b hm)
theorem KeepB.set {bs : List Nat} {W : World} {g : Nat} (i : Nat) (v : Value) (hg : g ∉ bs) : KeepB bs W (W.setCell ⟨g, i, none⟩ v) :=
  fun b hm => Below.heap_setCell _ _ _ _ (fun e => hg (by simp only at e; rw [← e]; exact hm))
theorem KeepB.mark {bs : List Nat} {w : World} (hb : ∀ b ∈ bs, b < w.heap.size) (W : World) (l : Nat) (o o' : Obj) (hl : w.heap.size ≤ l) (_ : W.heap[l]? = some o) (_ : o.isCells = false) (_ : o.isWalk = false) : KeepB bs W (W.putObj l o') :=
  fun b hm => World.putObj_heap_other (fun e => by have := hb b hm; omega)

end Go.Proofs.YtlijndkpgmbapaaGreatDoor

/- The iterator of order, walked: the steps of so many lines, one by one. -/
namespace Go.Proofs.YtlijndkpgmbapaaGreatDoor
set_option maxRecDepth 100000
open Go.RowKit
attribute [local go_sem] Oper.semAt_some

/-- all steps of so many lines; of a number that has none, none -/
def allL (n : Int) : List (Nat × Bool) := if LinesOk n then refL n.toNat else []
theorem allL_le (n : Int) : (allL n).length ≤ 128 := by
  unfold allL
  split
  · rename_i h
    unfold LinesOk at h
    rw [refL_length _ (by omega)]; omega
  · simp
theorem refTo_more : ∀ (n k : Nat), 1 ≤ k → k ≤ n → refTo k <+: refTo n
  | 0, k, h1, h => by omega
  | n + 1, k, h1, h => by
    by_cases e : k = n + 1
    · rw [e]; exact List.prefix_refl _
    · have := refTo_more n k h1 (by omega)
      rw [refTo_succ n (by omega)]
      exact this.trans (List.prefix_append _ _)
theorem pfx_take {α : Type} {p l : List α} (h : p <+: l) : ∃ j, j ≤ l.length ∧ p = l.take j := ⟨p.length, h.length_le, List.prefix_iff_eq_take.1 h⟩
theorem refL_pfx {n k : Nat} (h1 : 1 ≤ k) (h : k ≤ n) : refTo k <+: refL n := (refTo_more n k h1 h).trans (List.prefix_append _ _)
theorem refL_pfx2 {n k : Nat} (h1 : 1 ≤ k) (h : k < n) : refTo k ++ [(k, false)] <+: refL n := by
  refine List.IsPrefix.trans ?_ (refL_pfx (k := k + 1) (by omega) h)
  rw [refTo_succ k h1]
  exact ⟨[(k - 1, true)], by simp⟩
set_option maxHeartbeats 2000000 in
theorem steps_in (m : Nat) (hm : 1 ≤ m) (l b1 B : Nat) (n : Int) (J Jx : List (Nat × Bool) → World → Prop) (_hA : AbidesFrom B J)
    (hY : ∀ pre x W, J pre W → pre.length < (allL n).length → YieldAt Fence.wide (m - 1) Tryz.prog l #[.agg (sv x.1 x.2)] W fun e W' =>
      (e = .returned (.bool true) ∧ J (pre ++ [x]) W' ∧ KeepB [b1] W W') ∨ (e = .returned (.bool false) ∧ Jx (pre ++ [x]) W'))
    (W : World) (h1 : W.cell? ⟨b1, 0, none⟩ = some (.int .i64 n)) (h0 : J [] W) :
    CallsIn Fence.wide m Tryz.prog 170 #[.func (.yield l) #[] #[], .pointer (some ⟨b1, 0, none⟩)] W fun e W' => (∃ v, e = .returned v) ∧
      ((∃ ys, ys = allL n ∧ J ys W') ∨ (∃ pre, (∃ k, k ≤ (allL n).length ∧ pre = (allL n).take k) ∧ Jx pre W')) := by
  refine callsIn_of_wp Tryz.func170 rfl trivial ?_ rfl
  simp only [Tryz.ntmps170, List.size_toArray, List.length_cons, List.length_nil, Nat.reduceAdd, Nat.reduceSub, Array.replicate_succ, Array.replicate_zero, List.push_toArray, List.append_toArray, List.nil_append, List.cons_append]
  by_cases h : LinesOk n
  · obtain ⟨c, rfl⟩ : ∃ c : Nat, n = c := ⟨n.toNat, by unfold LinesOk at h; omega⟩
    have hc1 : 1 ≤ c := by unfold LinesOk at h; omega
    have hc64 : c ≤ 64 := by unfold LinesOk at h; omega
    have hall : allL (c : Int) = refL c := if_pos h
    have hlen := refL_length c hc1
    have HALL := Lib.hid hall
    have g1 : ¬ (c : Int) < 1 := by omega
    have g2 : ¬ (64 : Int) < (c : Int) := by omega
    rw [hall, hlen] at hY
    rw [hall]
    have HLEN := Lib.hid hlen
    have HY := Lib.hid hY
    clear h hall hlen hY
    obtain ⟨fn, tmps, assign, body, hy, hR⟩ := HY.out [] (0, false) W h0 (by show 0 < 2 * c; omega)
    simp only [sv, Int.cast_ofNat_Int] at hy hR
    gi_wp2
    refine hR.mono ?_
    clear hR hy
    rintro e W1 (⟨rfl, hJ1, hb1⟩ | ⟨rfl, hJx1⟩)
    · have HJ1 := Lib.hid hJ1
      have HB1 := Lib.hid hb1
      clear hJ1 hb1 h0
      gi_wp2_with fail
      gi_loopw [3] (fun i wr => ∃ j : Nat, j + 1 ≤ c ∧ i = .int .i64 ((j : Int) + 1) ∧ J (refTo (j + 1)) wr ∧ KeepB [b1] W wr)
        (fun i _ => c + 1 - (intOf i).toNat)
      case atStart => exact ⟨0, hc1, rfl, HJ1.out, HB1.out⟩
      case round =>
        obtain ⟨j, hj, rfl, hJ, hb'⟩ := hrel
        have g3 : wr.cell? ⟨b1, 0, none⟩ = some (.int .i64 c) := (hb'.cell (by simp)).trans h1
        have HJ := Lib.hid hJ
        have HB := Lib.hid hb'
        have hll := refTo_length (j + 1) (by omega)
        clear hJ hb'
        by_cases hlt : j + 1 < c
        · have hlti : (j : Int) + 1 < (c : Int) := by omega
          obtain ⟨fn, tmps, assign, body, hy, hR⟩ := HY.out (refTo (j + 1)) (j + 1, false) wr HJ.out (by omega)
          simp only [sv, Int.natCast_add, Int.cast_ofNat_Int] at hy hR
          gi_wp2
          refine hR.mono ?_
          clear hR hy
          rintro e W3 (⟨rfl, hJ3, hk3⟩ | ⟨rfl, hJx3⟩)
          · have HJ3 := Lib.hid hJ3
            have HK3 := Lib.hid hk3
            clear hJ3 hk3
            obtain ⟨fn2, tmps2, assign2, body2, hy2, hR2⟩ := HY.out (refTo (j + 1) ++ [(j + 1, false)]) (j, true) W3 HJ3.out (by rw [List.length_append, hll]; simp; omega)
            simp only [sv] at hy2 hR2
            gi_wp2
            refine hR2.mono ?_
            clear hR2 hy2
            rintro e W4 (⟨rfl, hJ4, hk4⟩ | ⟨rfl, hJx4⟩)
            · gi_wp2
              go_roundw
              case rel => exact ⟨j + 1, by omega, by go_num, by rw [refTo_succ (j + 1) (by omega)]; simpa using hJ4, HB.out.trans (HK3.out.trans hk4)⟩
              case measure => simp [intOf]; omega
            · gi_wp2
              refine bodyPost_ret (results_none rfl _ _ _) rfl ?_
              refine ⟨⟨_, rfl⟩, .inr ⟨_, ?_, hJx4⟩⟩
              have h := refL_pfx (n := c) (k := j + 2) (by omega) (by omega)
              rw [refTo_succ (j + 1) (by omega)] at h
              exact pfx_take (by simpa using h)
          · gi_wp2
            refine ⟨(fun _ h => nomatch h), ?_⟩
            gi_wp2
            refine bodyPost_ret (results_none rfl _ _ _) rfl ?_
            exact ⟨⟨_, rfl⟩, .inr ⟨_, pfx_take (refL_pfx2 (by omega) hlt), hJx3⟩⟩
        · have hlti : ¬ (j : Int) + 1 < (c : Int) := by omega
          obtain rfl : c = j + 1 := by omega
          obtain ⟨fn, tmps, assign, body, hy, hR⟩ := HY.out (refTo (j + 1)) (j, true) wr HJ.out (by omega)
          simp only [sv] at hy hR
          gi_wp2
          refine hR.mono ?_
          clear hR hy
          rintro e W3 (⟨rfl, hJ3, hk3⟩ | ⟨rfl, hJx3⟩)
          · gi_wp2
            go_end0
            exact ⟨⟨_, rfl⟩, .inl ⟨_, rfl, hJ3⟩⟩
          · gi_wp2
            go_end0
            exact ⟨⟨_, rfl⟩, .inr ⟨_, pfx_take (List.prefix_refl _), hJx3⟩⟩
    · gi_wp2
      refine bodyPost_ret (results_none rfl _ _ _) rfl ?_
      exact ⟨⟨_, rfl⟩, .inr ⟨_, pfx_take (refL_pfx (k := 1) (Nat.le_refl _) hc1), hJx1⟩⟩
  · have hc : n < 1 ∨ ¬ n < 1 ∧ 64 < n := by unfold LinesOk at h; omega
    have hall : allL n = [] := if_neg h
    rw [hall]
    clear hY h hall
    rcases hc with hc | ⟨hc, hc2⟩
    all_goals
      gi_wp2_with fail
      refine ⟨(fun _ h => nomatch h), ?_⟩
      gi_wp2_with fail
      refine bodyPost_ret (results_none rfl _ _ _) rfl ?_
      exact ⟨⟨_, rfl⟩, .inl ⟨[], rfl, h0⟩⟩

theorem steps_stops (m : Nat) (hm : 1 ≤ m) (b1 : Nat) (n : Int) (w : World) (hb1 : b1 < w.heap.size) (h1 : w.cell? ⟨b1, 0, none⟩ = some (.int .i64 n)) :
    SeqStopsK Fence.wide m Tryz.prog 170 #[.pointer (some ⟨b1, 0, none⟩)] (fun x : Nat × Bool => #[.agg (sv x.1 x.2)]) (KeepB [b1])
      (fun ys => ys = allL n) (fun pre => ∃ k, k ≤ (allL n).length ∧ pre = (allL n).take k) (allL n).length w := fun l J Jx W hW hA _ hY h0 => by
  exact steps_in m hm l b1 W.heap.size n J Jx hA hY W ((hW.cell (p := ⟨b1, 0, none⟩) hb1).trans h1) h0
/-- what Steps gives, block for block -/
theorem or_steps_raw (n : Int) (w : World) : Calls Tryz.prog 159 #[.int .i64 n] w fun e w' =>
    e = .returned (.func (.func 170) #[] #[.pointer (some ⟨w.heap.size, 0, none⟩)]) ∧ w' = w.alloc (.cells #[.int .i64 n] 3) := by
  go_enter Tryz.func159, Tryz.ntmps159
  go_wp2
  go_ret
  exact ⟨rfl, rfl⟩
theorem steps_enters : ∀ args W, (callFunc 170 args).run Tryz.prog W = .ok (.enter 170 args) W := enters_of Tryz.func170 (by kernel_rfl) rfl
end Go.Proofs.YtlijndkpgmbapaaGreatDoor
