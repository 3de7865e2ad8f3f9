/- Texts of one claim, merged: CeE, CeE2, CeL2, CeL6, Str4. -/
import Derived.Test.YtjmoecfgpfdncaaDoorM9
import Derived.Test.YtjmoecfgpfdncaaDoorM13
import Derived.Test.YtjmoecfgpfdncaaDoorRows
import Derived.WalkKit
import Derived.ProofKit
import Derived.OpenShut
import Derived.Lib.SmallJoins

/- Layer 8, the laws: what a cell is read as that was erased. -/
namespace Go.Proofs.YtjmoecfgpfdncaaDoor
set_option maxRecDepth 100000
open Go.RowKit

/-- the two cells that are erased -/
def erP (L : Nat) : St := putSt (stepSt (newSt L 8) 1) 0 (pgS 5) false
def erT (L : Nat) : St := put3 (stepSt (newSt L 8) 2) 0 (pgS 5) (pgS 6) (pgS 7) 0 0 0 3
theorem erP_of (L : Nat) (hL : 1 ≤ L) : progSt (newSt L 8) 0 (pgS 5) 0 0 0 = erP L ∧ progC (newSt L 8) 0 (pgS 5) 0 = 0 := by
  have h : ProgOk (newSt L 8) 0 (pgS 5) := ⟨rfl, rfl, by show (0 : Int) ≠ 2; decide, rfl, by show (0 : Int) < (L : Int); omega, takes_pg _ rfl 5⟩
  exact ⟨(pr_yes h).1.trans rfl, (pr_yes (a := 0) (b := 0) h).2.trans rfl⟩
theorem erT_of (L : Nat) (hL : 1 ≤ L) : twoSt (newSt L 8) 0 (pgS 5) (pgS 6) (pgS 7) false 0 0 0 = erT L ∧ twoC (newSt L 8) 0 (pgS 5) (pgS 6) (pgS 7) false 0 = 0 := by
  have hst : stepC L 0 = (0, false) := by unfold stepC; rw [if_pos rfl]
  have h : TwoOk (newSt L 8) 0 (pgS 5) (pgS 6) (pgS 7) false := ⟨rfl, rfl, by show (0 : Int) ≠ 1; decide, by show 0 < 2 * L; omega, by show (0 : Int) = ((stepC L 0).1 : Nat); rw [hst]; rfl, by show false = (stepC L 0).2; rw [hst], takes_pg _ rfl 5, takes_pg _ rfl 6, takes_pg _ rfl 7, fun hc => by cases hc⟩
  unfold twoSt twoC
  rw [if_pos h, if_pos h]
  exact ⟨rfl, rfl⟩
theorem new_page (L j : Nat) : pageAt (newSt L 8) j = ByteArray.empty := by
  unfold pageAt newSt
  simp only [List.getD_eq_getElem?_getD, List.getElem?_replicate]
  split <;> rfl
theorem new_mark (L j : Nat) : (newSt L 8).hs.getD j false = false := by
  unfold newSt
  simp only [List.getD_eq_getElem?_getD, List.getElem?_replicate]
  split <;> rfl

theorem new_lens (L : Nat) : (newSt L 8).ps.length = 3 * L ∧ (newSt L 8).hs.length = 3 * L := by simp [newSt]
theorem more_page (s : St) (j : Nat) : pageAt (moreSt s) j = pageAt s j ∧ (moreSt s).hs.getD j false = s.hs.getD j false := by
  unfold pageAt
  rw [(more_same s).2.2.1, (more_same s).2.2.2.1]
  exact ⟨rfl, rfl⟩
theorem erP_page (L i : Nat) (hL : 1 ≤ L) : pageAt (erP L) (3 * i) = (if i = 0 then pgS 5 else ByteArray.empty) ∧ (erP L).hs.getD (3 * i) false = false := by
  have hl := new_lens L
  constructor
  · show pageAt (putSt (stepSt (newSt L 8) 1) 0 (pgS 5) false) (3 * i) = _
    rw [put_page _ _ _ _ _ (by show 0 < (newSt L 8).ps.length; omega)]
    by_cases e : i = 0
    · subst e; rw [if_pos rfl, if_pos rfl]
    · rw [if_neg (by omega), if_neg e]; exact new_page L _
  · show (putSt (stepSt (newSt L 8) 1) 0 (pgS 5) false).hs.getD (3 * i) false = false
    rw [put_mark _ _ _ _ _ (by show 0 < (newSt L 8).hs.length; omega)]
    split
    · rfl
    · exact new_mark L _
theorem erT_page (L i : Nat) (hL : 1 ≤ L) : pageAt (erT L) (3 * i) = (if i = 0 then pgS 5 else ByteArray.empty) ∧ (erT L).hs.getD (3 * i) false = false := by
  have hl := new_lens L
  have e1 : erT L = putSt (putSt (putSt (stepSt (newSt L 8) 2) 0 (pgS 5) false) 1 (pgS 6) false) 2 (pgS 7) false := rfl
  rw [e1]
  constructor
  · rw [put_page _ _ _ _ _ (by simp [putSt, stepSt, hl.1]; omega), put_page _ _ _ _ _ (by simp [putSt, stepSt, hl.1]; omega), put_page _ _ _ _ _ (by show 0 < (newSt L 8).ps.length; omega), if_neg (by omega), if_neg (by omega)]
    by_cases e : i = 0
    · subst e; rw [if_pos rfl, if_pos rfl]
    · rw [if_neg (by omega), if_neg e]; exact new_page L _
  · rw [put_mark _ _ _ _ _ (by simp [putSt, stepSt, hl.2]; omega), put_mark _ _ _ _ _ (by simp [putSt, stepSt, hl.2]; omega), put_mark _ _ _ _ _ (by show 0 < (newSt L 8).hs.length; omega), if_neg (by omega), if_neg (by omega)]
    split
    · rfl
    · exact new_mark L _
/-- what a page of them comes to that is ruined -/
theorem ruin_blank {s : St} {j : Nat} {k : Int} (a b : Int) (hy : s.Y = 8) (hk : hurtsB k = true) (h : pageAt s j = ByteArray.empty) : ruinT (moreSt s) a b k j = hurtT (blankS 8) a b := by
  have hb := at_blank (s := moreSt s) (j := j) (by rw [(more_page s j).1]; exact h)
  unfold ruinT pageT
  rw [hb.2, hb.1, if_neg (by simp), if_pos hk, (more_same s).2.1, hy]
theorem ruin_P (L : Nat) {k : Int} (a b : Int) (hL : 1 ≤ L) (hk : hurtsB k = true) : ruinT (moreSt (erP L)) a b k 0 = hurtT (pgS 5) a b := by
  have hp := erP_page L 0 hL
  have hm := more_page (erP L) 0
  have h1 : pageAt (moreSt (erP L)) 0 = pgS 5 := by rw [hm.1]; exact hp.1
  have h2 : (moreSt (erP L)).hs.getD 0 false = false := by rw [hm.2]; exact hp.2
  have hf : isFog (moreSt (erP L)) 0 = false := by unfold isFog; rw [(more_same (erP L)).2.2.2.2]; rfl
  have ha : atT (moreSt (erP L)) 0 = pgS 5 ∧ atH (moreSt (erP L)) 0 = false := by
    unfold atT atH
    rw [h1, h2, hf, if_neg (pg_full 5), if_neg (pg_full 5)]
    exact ⟨rfl, rfl⟩
  unfold ruinT pageT
  rw [ha.2, ha.1, if_neg (by simp), if_pos hk]

end Go.Proofs.YtjmoecfgpfdncaaDoor

/- Layer 8, the laws: what a cell is told as that was erased. -/
namespace Go.Proofs.YtjmoecfgpfdncaaDoor
set_option maxRecDepth 100000
open Go.RowKit

theorem ruin_T (L : Nat) {k : Int} (a b : Int) (hL : 1 ≤ L) : ruinT (moreSt (erT L)) a b k 0 = hurtT (pgS 5) 0 0 := by
  have hp := erT_page L 0 hL
  have hm := more_page (erT L) 0
  have h1 : pageAt (moreSt (erT L)) 0 = pgS 5 := by rw [hm.1]; exact hp.1
  have h2 : (moreSt (erT L)).hs.getD 0 false = false := by rw [hm.2]; exact hp.2
  have hmo : moreSt (erT L) = { erT L with tlc := (erT L).tlc + 1 } := if_pos rfl
  have hf : isFog (moreSt (erT L)) 0 = true := by
    rw [hmo]
    have ha : afterC L 1 0 = 1 := by
      have e1 : ¬ placeC L 0 true < 1 := by
        unfold placeC
        rw [if_pos rfl]
        split <;> omega
      have e2 : placeC L 0 false < 1 := by
        unfold placeC
        rw [if_neg (by simp), if_pos rfl]
        omega
      unfold afterC
      rw [if_neg e1, if_pos e2]
    show ((2 : Int) == 2 && afterC L 1 (0 / 3) == 1) = true
    rw [show (0 : Nat) / 3 = 0 from rfl, ha]
    rfl
  have ha : atT (moreSt (erT L)) 0 = hurtT (pgS 5) 0 0 ∧ atH (moreSt (erT L)) 0 = true := by
    unfold atT atH
    rw [h1, h2, hf, if_neg (pg_full 5), if_neg (pg_full 5)]
    exact ⟨rfl, rfl⟩
  unfold ruinT
  rw [ha.2, ha.1, if_pos rfl]
theorem er_wf (L : Nat) (h1 : 1 ≤ L) (h2 : L ≤ 64) : WfSt (erP L) ∧ WfSt (erT L) := by
  have hn : WfSt (newSt L 8) := newSt_ok h1 h2 ⟨by decide, by decide, by decide⟩
  constructor
  · rw [← (erP_of L h1).1]; exact progSt_wf hn _ _ _ _ _
  · rw [← (erT_of L h1).1]; exact twoSt_wf hn _ _ _ _ _ _ _ _
/-- a cell that is erased, cut or failing: each line's first page is told as bad -/
theorem er_bad (s : St) (L i : Nat) (a b k : Int) (hs : s = erP L ∨ s = erT L) (h1 : 1 ≤ L) (h2 : L ≤ 64) (hi : i < L) (hk : hurtsB k = true) :
    pageV (readT (eraseSt s k a b) (i : Nat) (0 : Nat)) = pv 4 0 0 0 0 ByteArray.empty ∧ readC (eraseSt s k a b) (i : Nat) (0 : Nat) = 0 := by
  have hw := er_wf L h1 h2
  have hws : WfSt s := by
    rcases hs with rfl | rfl
    · exact hw.1
    · exact hw.2
  have hsL : s.L = L := by rcases hs with rfl | rfl <;> rfl
  have hsY : s.Y = 8 := by rcases hs with rfl | rfl <;> rfl
  have hsb : s.bad = false := by rcases hs with rfl | rfl <;> rfl
  have hsm : s.mode ≠ 0 := by
    rcases hs with rfl | rfl
    · show (1 : Int) ≠ 0; decide
    · show (2 : Int) ≠ 0; decide
  have hpg : pageAt s (3 * i) = if i = 0 then pgS 5 else ByteArray.empty := by
    rcases hs with rfl | rfl
    · exact (erP_page L i h1).1
    · exact (erT_page L i h1).1
  obtain ⟨R, hR⟩ : ∃ R, ruinTo (moreSt s) (moreSt s) a b k (3 * s.L) = R := ⟨_, rfl⟩
  have hRm : R.mode = s.mode ∧ R.L = L := by
    rw [← hR, (ruinTo_mode _ _ _ _ _ _).1, (ruinTo_mode _ _ _ _ _ _).2]
    exact ⟨(more_same s).2.2.2.2, (more_same s).1.trans hsL⟩
  have hsl : slcSt R = R := if_neg (by rw [hRm.1]; exact hsm)
  have he : eraseSt s k a b = endSt R k := by
    unfold eraseSt
    rw [if_neg (by rw [hsb]; simp), if_pos hk, hR, hsl]
  have hend := end_same R k
  have hps := endSt_ps R k
  have hrp := ruin_page (moreSt s) (moreSt s) a b k (3 * i) (3 * s.L) (by rw [(more_same s).2.2.1, hws.psl]; exact Nat.le_refl _) (by rw [(more_same s).2.2.2.1, hws.hsl]; exact Nat.le_refl _) (by rw [hsL]; omega)
  rw [hR] at hrp
  have hru : (ruinT (moreSt s) a b k (3 * i) = hurtT (blankS 8) a b) ∨ (ruinT (moreSt s) a b k (3 * i) = hurtT (pgS 5) a b) ∨ (ruinT (moreSt s) a b k (3 * i) = hurtT (pgS 5) 0 0) := by
    by_cases e : i = 0
    · subst e
      rcases hs with rfl | rfl
      · exact Or.inr (Or.inl (ruin_P L a b h1 hk))
      · exact Or.inr (Or.inr (ruin_T L a b h1))
    · rw [if_neg e] at hpg
      exact Or.inl (ruin_blank a b hsY hk hpg)
  have hpe : pageAt (endSt R k) (3 * i + 0) = ruinT (moreSt s) a b k (3 * i) := by
    unfold pageAt
    rw [hps.1]
    exact hrp.1
  have hhe : (endSt R k).hs.getD (3 * i + 0) false = true := by rw [hps.2]; exact hrp.2
  have hfull : ¬ pageAt (endSt R k) (3 * i + 0) = ByteArray.empty := by
    rw [hpe]
    rcases hru with h | h | h
    · rw [h]; exact full_of_size (n := 35) (by rw [hurtT_size, blankS_size])
    · rw [h]; exact full_of_size (n := 35) (by rw [hurtT_size, pgS_size])
    · rw [h]; exact full_of_size (n := 35) (by rw [hurtT_size, pgS_size])
  have hok : ReadOk (endSt R k) (i : Nat) (0 : Nat) := ⟨by omega, by rw [hend.1, hRm.2]; omega, by omega, by omega, fun hc => hc.2 rfl⟩
  rw [he, (read_yes hok).1, (read_yes hok).2, at_hurt hfull hhe, hpe]
  refine ⟨?_, rfl⟩
  rcases hru with h | h | h
  · rw [h]; exact blank_hurts a b
  · rw [h]; exact page_hurt 5 a b
  · rw [h]; exact page_hurt 5 0 0
/-- .. and where it goes well: as blank -/
theorem er_well (s : St) (L i : Nat) (a b k : Int) (hs : s = erP L ∨ s = erT L) (hi : i < L) (hk : hurtsB k = false) :
    pageV (readT (eraseSt s k a b) (i : Nat) (0 : Nat)) = pv 1 0 0 0 0 ByteArray.empty ∧ readC (eraseSt s k a b) (i : Nat) (0 : Nat) = 0 := by
  have hsL : s.L = L := by rcases hs with rfl | rfl <;> rfl
  have hsY : s.Y = 8 := by rcases hs with rfl | rfl <;> rfl
  have hsb : s.bad = false := by rcases hs with rfl | rfl <;> rfl
  obtain ⟨N, hN⟩ : ∃ N, eraseSt s k a b = N := ⟨_, rfl⟩
  have hE : N = { newSt L 8 with slc := (moreSt s).slc, tlc := (moreSt s).tlc } := by
    rw [← hN]
    unfold eraseSt
    rw [if_neg (by rw [hsb]; simp), if_neg (by rw [hk]; simp), hsL, hsY]
  have hp : pageAt N (3 * i + 0) = ByteArray.empty := by rw [hE]; exact new_page L _
  have hok : ReadOk N (i : Nat) (0 : Nat) := ⟨by omega, by rw [hE]; show (i : Int) < (L : Int); omega, by omega, by omega, fun hc => hc.2 rfl⟩
  rw [hN, (read_yes hok).1, (read_yes hok).2, (at_blank hp).1]
  refine ⟨?_, rfl⟩
  rw [show N.Y = 8 by rw [hE]; rfl]
  exact blank_is

end Go.Proofs.YtjmoecfgpfdncaaDoor

/- Layer 8, the laws: short; acts. -/
namespace Go.Proofs.YtjmoecfgpfdncaaDoor
set_option maxRecDepth 100000
open Go.RowKit

structure ActS where
  kd : Int
  ln : Int
  pt : Int
  p : ByteArray
  q : ByteArray
  r : ByteArray
  x : Int
  k : Int
  a : Int
  b : Int
def actv (A : ActS) : Array Value := #[.int .i64 A.kd, .int .i64 A.ln, .int .i64 A.pt, .string A.p, .string A.q, .string A.r, .int .i64 A.x, .int .i64 A.k, .int .i64 A.a, .int .i64 A.b]
theorem actv_one (A : ActS) : (actv A).all (·.oneCell') = true := by
  rw [Array.all_eq_true_iff_forall_mem]
  intro v hv
  simp [actv] at hv
  rcases hv with rfl | rfl | rfl | rfl | rfl | rfl | rfl | rfl | rfl | rfl <;> rfl
def shortB (A : ActS) : Bool := decide (A.p.size ≤ 400 ∧ A.q.size ≤ 400 ∧ A.r.size ≤ 400)
/-- the cells of a slice of acts -/
def ActsArg (w : World) (oa : Option Addr) (l : List ActS) : Prop := ∀ i (hi : i < l.length), ∃ a, oa = some a ∧ a.block < w.heap.size ∧ ∀ t, t < 10 → w.cell? ((a.add (i * 10)).add t) = (actv (l[i]'hi))[t]?
def actSt (s : St) (A : ActS) : St :=
  if A.kd = 1 then progSt s A.ln A.p A.k A.a A.b else if A.kd = 2 then twoSt s A.ln A.p A.q A.r false A.k A.a A.b else if A.kd = 3 then twoSt s A.ln A.p A.q A.r true A.k A.a A.b else if A.kd = 4 then eraseSt s A.k A.a A.b else s

theorem endSt_counts (s : St) (k : Int) : (endSt s k).slc = s.slc ∧ (endSt s k).tlc = s.tlc := by
  unfold endSt
  split
  · exact ⟨rfl, rfl⟩
  · split <;> exact ⟨rfl, rfl⟩
theorem ruinTo_counts (s t : St) (a b k : Int) : ∀ n, (ruinTo s t a b k n).slc = t.slc ∧ (ruinTo s t a b k n).tlc = t.tlc
  | 0 => ⟨rfl, rfl⟩
  | n + 1 => ruinTo_counts s t a b k n
theorem moreSt_counts (s : St) : (moreSt s).slc ≤ s.slc + 1 ∧ (moreSt s).tlc ≤ s.tlc + 1 := by
  unfold moreSt
  split
  · exact ⟨Nat.le_succ _, Nat.le_refl _⟩
  · exact ⟨Nat.le_refl _, Nat.le_succ _⟩
theorem eraseSt_counts (s : St) (k a b : Int) : (eraseSt s k a b).slc ≤ s.slc + 1 ∧ (eraseSt s k a b).tlc ≤ s.tlc + 1 := by
  have hm := moreSt_counts s
  unfold eraseSt
  split
  · exact ⟨Nat.le_succ _, Nat.le_succ _⟩
  · split
    · rw [(endSt_counts _ k).1, (endSt_counts _ k).2]
      have hr := ruinTo_counts (moreSt s) (moreSt s) a b k (3 * s.L)
      unfold slcSt
      split
      · show (ruinTo _ _ _ _ _ _).slc ≤ _ ∧ (ruinTo _ _ _ _ _ _).tlc ≤ _
        rw [hr.1, hr.2]; exact hm
      · rw [hr.1, hr.2]; exact hm
    · exact hm
theorem progSt_counts (s : St) (line : Int) (p : ByteArray) (k a b : Int) : (progSt s line p k a b).slc = s.slc ∧ (progSt s line p k a b).tlc = s.tlc := by
  unfold progSt
  split
  · exact endSt_counts _ k
  · exact ⟨rfl, rfl⟩
theorem twoSt_counts (s : St) (line : Int) (p q r : ByteArray) (f : Bool) (k a b : Int) : (twoSt s line p q r f k a b).slc = s.slc ∧ (twoSt s line p q r f k a b).tlc = s.tlc := by
  unfold twoSt
  split
  · exact endSt_counts _ k
  · exact ⟨rfl, rfl⟩

theorem Only.put {F : Nat → Prop} {w w' : World} (h : Only F w w') (R : Nat) (hR : w.heap.size ≤ R) (cs : Array Value) : Only F w (w'.setRow R cs) :=
  ⟨h.os, h.tape, h.output, by rw [size_setRow]; exact h.size, fun k hk hn => (setRow_heap_ne _ _ _ _ (by omega)).trans (h.block k hk hn)⟩
end Go.Proofs.YtjmoecfgpfdncaaDoor

/- Layer 8, the laws: three, CellErases. -/
namespace Go.Proofs.YtjmoecfgpfdncaaDoor
set_option maxRecDepth 100000
open Go.RowKit

theorem ce_three (n : Nat) (w : World) (hn : n ≤ 98) (hT : Tabs w) : Calls Tryd.prog 18 #[.int .i64 (n : Nat)] w fun e w' => e = .returned (.agg (tv3 (pgS n) (pgS (n + 1)) (pgS (n + 2)))) ∧ Below w.heap.size w w' := by
  obtain ⟨w1, hw1⟩ : ∃ w1, w.alloc (.cells (tv3 ByteArray.empty ByteArray.empty ByteArray.empty) 43) = w1 := ⟨_, rfl⟩
  have hb1 : Below w.heap.size w w1 := by rw [← hw1]; exact (Below.refl _ _).alloc (Nat.le_refl _) _
  have hk1 : Blk w1 w.heap.size (tv3 ByteArray.empty ByteArray.empty ByteArray.empty) 43 := by rw [← hw1]; exact Blk.new w _ _
  have e1 : ((n : Int) + 1) = ((n + 1 : Nat) : Int) := by omega
  have e2 : ((n : Int) + 2) = ((n + 2 : Nat) : Int) := by omega
  have HT := Lib.hid hT
  have HB1 := Lib.hid hb1
  have HK1 := Lib.hid hk1
  have HW1 := Lib.hid hw1
  have HP2 : Hid (∀ w', Tabs w' → Calls Tryd.prog 9 #[.int .i64 ((n : Int) + 1)] w' fun e w'' => e = .returned (.string (pgS (n + 1))) ∧ Below w'.heap.size w' w'') := fun w' h => by rw [e1]; exact ce_pageOf (n + 1) w' (by omega) h
  have HP3 : Hid (∀ w', Tabs w' → Calls Tryd.prog 9 #[.int .i64 ((n : Int) + 2)] w' fun e w'' => e = .returned (.string (pgS (n + 2))) ∧ Below w'.heap.size w' w'') := fun w' h => by rw [e2]; exact ce_pageOf (n + 2) w' (by omega) h
  clear hT hb1 hk1 hw1 e1 e2
  go_enter Tryd.func18, Tryd.ntmps18
  go_wp2_with fail
  refine (ce_pageOf n _ (by omega) (HT.out.after (by first | exact HB1.out | (show Below w.heap.size w (w.alloc (.cells (tv3 ByteArray.empty ByteArray.empty ByteArray.empty) 43)); rw [HW1.out]; exact HB1.out)))).mono ?_
  rintro e w2 ⟨rfl, hb2⟩
  have hb2' : Below w1.heap.size w1 w2 := by rw [← HW1.out]; exact hb2
  have HB2 := Lib.hid (HB1.out.trans (hb2'.mono HB1.out.size))
  have HK2 := Lib.hid (HK1.out.after hb2')
  clear hb2 hb2'
  go_wp2_with fail
  refine (HP2.out _ (HT.out.after HB2.out)).mono ?_
  rintro e w3 ⟨rfl, hb3⟩
  have HB3 := Lib.hid (HB2.out.trans (hb3.mono HB2.out.size))
  have HK3 := Lib.hid (HK2.out.after hb3)
  clear hb3
  go_wp2_with fail
  refine (HP3.out _ (HT.out.after HB3.out)).mono ?_
  rintro e w4 ⟨rfl, hb4⟩
  have HB4 := Lib.hid (HB3.out.trans (hb4.mono HB3.out.size))
  have HK4 := Lib.hid (HK3.out.after hb4)
  clear hb4
  go_wp2_with (refine wpList_store_row rfl 43 (.tmp 2) (.tmp 11) rfl w.heap.size (tv3 (pgS n) (pgS (n + 1)) (pgS (n + 2))) rfl rfl 43 (tv3 ByteArray.empty ByteArray.empty ByteArray.empty) HK4.out size_three rfl (tv_one _ _ _) ?_)
  exact bodyPost_ret (results_cell_row (P := Tryd.prog) rfl _ _ w.heap.size 43 (tv3 (pgS n) (pgS (n + 1)) (pgS (n + 2))) (0, 0) _ rfl (HK4.out.put _) Tryd.underlying43 rfl size_three) rfl ⟨rfl, below_put (Nat.le_refl _) _ HB4.out⟩
theorem er_counts (L : Nat) (k a b : Int) : (eraseSt (erP L) k a b).slc = 1 ∧ (eraseSt (erP L) k a b).tlc = 0 ∧ (eraseSt (erT L) k a b).slc = 0 ∧ (eraseSt (erT L) k a b).tlc = 1 := by
  have h : ∀ s : St, s.bad = false → (eraseSt s k a b).slc = (moreSt s).slc ∧ (eraseSt s k a b).tlc = (moreSt s).tlc := by
    intro s hb
    unfold eraseSt
    rw [if_neg (by rw [hb]; simp)]
    split
    · rw [(endSt_counts _ k).1, (endSt_counts _ k).2]
      have hr := ruinTo_counts (moreSt s) (moreSt s) a b k (3 * s.L)
      unfold slcSt
      split
      · exact hr
      · exact hr
    · exact ⟨rfl, rfl⟩
  have hP := h (erP L) rfl
  have hT := h (erT L) rfl
  have mP : moreSt (erP L) = { erP L with slc := (erP L).slc + 1 } := if_neg (by show ¬ (1 : Int) = 2; decide)
  have mT : moreSt (erT L) = { erT L with tlc := (erT L).tlc + 1 } := if_pos rfl
  rw [hP.1, hP.2, hT.1, hT.2, mP, mT]
  exact ⟨rfl, rfl, rfl, rfl⟩
theorem er_after (s : St) (L : Nat) (a b k : Int) (hs : s = erP L ∨ s = erT L) (h1 : 1 ≤ L) (hk : hurtsB k = false) : (eraseSt s k a b).mode = 0 ∧ (eraseSt s k a b).done = 0 ∧ progC (eraseSt s k a b) 0 (pgS 1) 0 = 0 := by
  have hsL : s.L = L := by rcases hs with rfl | rfl <;> rfl
  have hsY : s.Y = 8 := by rcases hs with rfl | rfl <;> rfl
  have hsb : s.bad = false := by rcases hs with rfl | rfl <;> rfl
  have hE : eraseSt s k a b = { newSt L 8 with slc := (moreSt s).slc, tlc := (moreSt s).tlc } := by
    unfold eraseSt
    rw [if_neg (by rw [hsb]; simp), if_neg (by rw [hk]; simp), hsL, hsY]
  rw [hE]
  refine ⟨rfl, rfl, ?_⟩
  have h : ProgOk { newSt L 8 with slc := (moreSt s).slc, tlc := (moreSt s).tlc } 0 (pgS 1) := ⟨rfl, rfl, by show (0 : Int) ≠ 2; decide, rfl, by show (0 : Int) < (L : Int); omega, takes_pg _ rfl 1⟩
  exact (pr_yes (a := 0) (b := 0) h).2

set_option maxHeartbeats 4000000 in
theorem walk_CellErases (ln : Int) (two : Bool) (x k a b : Int) (_ : (Lit.int .i64 ln).wf = true) (w : World) (hT : Tabs w) :
    Calls Tryd.prog 5 #[.int .i64 ln, .bool two, .agg (fv x k a b)] w fun e w' => e = .returned (.bool true) ∧ Below w.heap.size w w' := by
  obtain ⟨w1, hw1⟩ : ∃ w1, w.alloc (.cells (fv x k a b) 23) = w1 := ⟨_, rfl⟩
  have hb1 : Below w.heap.size w w1 := by rw [← hw1]; exact (Below.refl _ _).alloc (Nat.le_refl _) _
  have hk1 : Blk w1 w.heap.size (fv x k a b) 23 := by rw [← hw1]; exact Blk.new w _ _
  have HTB : Hid (∀ w', Below w1.heap.size w1 w' → Tabs w') := fun w' hb => (hT.after hb1).after hb
  have HBX : Hid (∀ w', Below w1.heap.size w1 w' → Blk w' w.heap.size (fv x k a b) 23) := fun w' hb => hk1.after hb
  have HB1 := Lib.hid hb1
  have HW1 := Lib.hid hw1
  clear hT hb1 hk1 hw1
  go_enter Tryd.func5, Tryd.ntmps5
  go_wp2_with fail
  change Calls _ _ _ (w.alloc (.cells (fv x k a b) 23)) _
  rw [HW1.out]
  refine (ce_works _ (HTB.out _ (Below.refl _ _))).mono ?_
  rintro e w2 ⟨rfl, hb2⟩
  have HB2 : Hid (Below w1.heap.size w1 w2) := hb2
  clear hb2
  have hcc : ln < 1 ∨ (¬ ln < 1 ∧ 20 < ln) ∨ (¬ ln < 1 ∧ ¬ 20 < ln) := by omega
  rcases hcc with hc1 | ⟨hc1, hc2⟩ | ⟨hc1, hc2⟩
  · go_wp2_with fail
    go_ret
    exact ⟨rfl, HB1.out.trans (HB2.out.mono HB1.out.size)⟩
  · go_wp2_with fail
    go_ret
    exact ⟨rfl, HB1.out.trans (HB2.out.mono HB1.out.size)⟩
  · obtain ⟨L, rfl⟩ : ∃ L : Nat, ln = L := ⟨ln.toNat, by omega⟩
    have HL1 : Hid (1 ≤ L) := by show 1 ≤ L; omega
    have HL64 : Hid (L ≤ 64) := by show L ≤ 64; omega
    have hl20 : L ≤ 20 := by omega
    have HWF : Hid (WfSt (newSt L 8)) := newSt_ok HL1.out HL64.out ⟨by decide, by decide, by decide⟩
    have HWE := Lib.hid (er_wf L HL1.out HL64.out)
    go_wp2_with fail
    refine (ce_new (L : Nat) 8 _).mono ?_
    rintro e w3 ⟨hy, _, hb3⟩
    obtain ⟨o, F, rfl, hc, hF⟩ := hy ⟨⟨by omega, by omega⟩, by decide, ⟨by decide, by decide, by decide⟩⟩
    have hnn : newSt (L : Int).toNat (8 : Int).toNat = newSt L 8 := by simp
    rw [hnn] at hc
    have E2 : Hid (EX w1 o F (newSt L 8) w3) := ⟨hc, fun kk hkk => Nat.le_trans HB2.out.size (hF kk hkk), HB2.out.trans (hb3.mono HB2.out.size)⟩
    clear hy hc hF hb3 hnn HB2
    cases two
    · by_cases hk1 : k = 1
      · subst hk1
        go_wp2_with fail
        refine (ce_pageOf 5 _ (by decide) (HTB.out _ E2.out.low)).mono ?_
        rintro e w3 ⟨rfl, hb3⟩
        have E3 := Lib.hid (E2.out.after hb3)
        clear hb3 E2
        go_wp2_with fail
        refine (ce_prog o F (newSt L 8) 0 (pgS 5) 0 0 0 0 _ HWF.out E3.out.cell (pgS_le 5)).mono ?_
        rintro e w4 ⟨rfl, ⟨F2, hc, hg⟩, ho⟩
        rw [(erP_of L HL1.out).1] at hc
        rw [(erP_of L HL1.out).2]
        have E4 := Lib.hid (E3.out.act hc hg ho)
        have HBX4 : Hid (Blk w4 w.heap.size (fv x 1 a b) 23) := HBX.out w4 (E4.out.low)
        clear hc hg ho E3
        go_wp2_with (refine wpList_load_row rfl 23 (.tmp 5) rfl w.heap.size rfl 23 (fv x 1 a b) (0, 0) _ HBX4.out Tryd.underlying23 rfl size_fault ?_)
        refine (ce_erase o F2 (erP L) x 1 a b _ (HWE.out).1 E4.out.cell (by show 0 < 1000000000; decide) (by show 0 < 1000000000; decide)).mono ?_
        rintro e w5 ⟨rfl, ⟨F3, hc, hg⟩, ho⟩
        have E5 := Lib.hid (E4.out.act hc hg ho)
        obtain ⟨sE, hsE⟩ : ∃ sE, eraseSt (erP L) 1 a b = sE := ⟨_, rfl⟩
        obtain ⟨ec, hec⟩ : ∃ ec, eraseC (erP L) 1 = ec := ⟨_, rfl⟩
        have hct := er_counts L 1 a b
        have hecv : ec = 82 := by
          rw [← hec]
          unfold eraseC endC
          rfl
        have HSW : Hid (WfSt sE) := by
          show WfSt sE
          rw [← hsE]
          exact eraseSt_wf (HWE.out).1 _ _ _ (by show 0 < 1000000000; decide) (by show 0 < 1000000000; decide)
        have HRD : Hid (∀ i, i < L → pageV (readT sE (i : Nat) (0 : Nat)) = pv 4 0 0 0 0 ByteArray.empty ∧ readC sE (i : Nat) (0 : Nat) = 0) := by
          show ∀ i, i < L → _
          intro i hi
          rw [← hsE]
          exact er_bad (erP L) L i a b 1 (Or.inl rfl) HL1.out HL64.out hi rfl
        have HCT : Hid (sE.slc = 1 ∧ sE.tlc = 0) := by
          show _ ∧ _
          rw [← hsE]
          exact ⟨hct.1, hct.2.1⟩
        have HSE := Lib.hid hsE
        rw [hsE] at E5
        rw [hec]
        subst hecv
        clear hc hg ho E4 hec hct hsE HBX4
        go_wp2_with fail
        refine (ce_counts o F3 sE _ HSW.out E5.out.cell).mono ?_
        rintro e w6 ⟨rfl, hb6⟩
        have E6 := Lib.hid (E5.out.after hb6)
        rw [HCT.out.1, HCT.out.2]
        have hq1 : w6.cell? ⟨w.heap.size, 1, none⟩ = some (.int .i64 1) := (HBX.out w6 E6.out.low).cell 1
        clear hb6 E5
        go_wp2_with fail
        go_loopw [82] (fun iv wr => ∃ i : Nat, i ≤ L ∧ iv = .int .i64 i ∧ EX w1 o F3 sE wr) (fun iv _ => L - (intOf iv).toNat)
        case atStart => exact ⟨0, by omega, rfl, E6.out⟩
        case round =>
          obtain ⟨i, hi, rfl, hex⟩ := hrel
          have ER := Lib.hid hex
          clear hex
          by_cases hlt : i < L
          · have hrd := HRD.out i hlt
            have htz : (readT sE (i : Nat) (0 : Nat)).size ≤ 400 := by
              unfold readT
              split
              · exact atT_size HSW.out _
              · decide
            go_wp2_with fail
            refine (ce_read o F3 sE (i : Nat) 0 _ HSW.out ER.out.cell).mono ?_
            rintro e w7 ⟨rfl, hb7⟩
            have E7 := Lib.hid (ER.out.after hb7)
            have hr2 : readC sE (i : Nat) 0 = 0 := hrd.2
            have hr1 : pageV (readT sE (i : Nat) 0) = pv 4 0 0 0 0 ByteArray.empty := hrd.1
            have hr3 : (readT sE (i : Nat) 0).size ≤ 400 := htz
            rw [hr2]
            obtain ⟨t, ht⟩ : ∃ t, readT sE (i : Nat) 0 = t := ⟨_, rfl⟩
            rw [ht] at hr1 hr3 ⊢
            clear hb7 ht hrd htz hr2 ER
            go_wp2_with fail
            refine (fr_dec t _ hr3 (HTB.out _ E7.out.low)).mono ?_
            rintro e w8 ⟨rfl, hb8⟩
            rw [hr1, show pv 4 0 0 0 0 ByteArray.empty = #[.int .i64 4, .int .i64 0, .int .i64 0, .int .i64 0, .int .i64 0, .string ByteArray.empty] from rfl]
            have E8 := Lib.hid (E7.out.after hb8)
            clear hb8 hr1 hr3 E7
            go_wp2_with fail
            go_roundw
            case rel => exact ⟨i + 1, by omega, by go_num, E8.out.after ((Below.refl _ _).alloc (Nat.le_refl _) _)⟩
            case measure => simp [intOf]; omega
          · go_wp2_with fail
            go_ret
            exact ⟨rfl, HB1.out.trans (ER.out.low.mono HB1.out.size)⟩
      by_cases hk2 : k = 2
      · subst hk2
        go_wp2_with fail
        refine (ce_pageOf 5 _ (by decide) (HTB.out _ E2.out.low)).mono ?_
        rintro e w3 ⟨rfl, hb3⟩
        have E3 := Lib.hid (E2.out.after hb3)
        clear hb3 E2
        go_wp2_with fail
        refine (ce_prog o F (newSt L 8) 0 (pgS 5) 0 0 0 0 _ HWF.out E3.out.cell (pgS_le 5)).mono ?_
        rintro e w4 ⟨rfl, ⟨F2, hc, hg⟩, ho⟩
        rw [(erP_of L HL1.out).1] at hc
        rw [(erP_of L HL1.out).2]
        have E4 := Lib.hid (E3.out.act hc hg ho)
        have HBX4 : Hid (Blk w4 w.heap.size (fv x 2 a b) 23) := HBX.out w4 (E4.out.low)
        clear hc hg ho E3
        go_wp2_with (refine wpList_load_row rfl 23 (.tmp 5) rfl w.heap.size rfl 23 (fv x 2 a b) (0, 0) _ HBX4.out Tryd.underlying23 rfl size_fault ?_)
        refine (ce_erase o F2 (erP L) x 2 a b _ (HWE.out).1 E4.out.cell (by show 0 < 1000000000; decide) (by show 0 < 1000000000; decide)).mono ?_
        rintro e w5 ⟨rfl, ⟨F3, hc, hg⟩, ho⟩
        have E5 := Lib.hid (E4.out.act hc hg ho)
        obtain ⟨sE, hsE⟩ : ∃ sE, eraseSt (erP L) 2 a b = sE := ⟨_, rfl⟩
        obtain ⟨ec, hec⟩ : ∃ ec, eraseC (erP L) 2 = ec := ⟨_, rfl⟩
        have hct := er_counts L 2 a b
        have hecv : ec = 81 := by
          rw [← hec]
          unfold eraseC endC
          rfl
        have HSW : Hid (WfSt sE) := by
          show WfSt sE
          rw [← hsE]
          exact eraseSt_wf (HWE.out).1 _ _ _ (by show 0 < 1000000000; decide) (by show 0 < 1000000000; decide)
        have HRD : Hid (∀ i, i < L → pageV (readT sE (i : Nat) (0 : Nat)) = pv 4 0 0 0 0 ByteArray.empty ∧ readC sE (i : Nat) (0 : Nat) = 0) := by
          show ∀ i, i < L → _
          intro i hi
          rw [← hsE]
          exact er_bad (erP L) L i a b 2 (Or.inl rfl) HL1.out HL64.out hi rfl
        have HCT : Hid (sE.slc = 1 ∧ sE.tlc = 0) := by
          show _ ∧ _
          rw [← hsE]
          exact ⟨hct.1, hct.2.1⟩
        have HSE := Lib.hid hsE
        rw [hsE] at E5
        rw [hec]
        subst hecv
        clear hc hg ho E4 hec hct hsE HBX4
        go_wp2_with fail
        refine (ce_counts o F3 sE _ HSW.out E5.out.cell).mono ?_
        rintro e w6 ⟨rfl, hb6⟩
        have E6 := Lib.hid (E5.out.after hb6)
        rw [HCT.out.1, HCT.out.2]
        have hq1 : w6.cell? ⟨w.heap.size, 1, none⟩ = some (.int .i64 2) := (HBX.out w6 E6.out.low).cell 1
        clear hb6 E5
        go_wp2_with fail
        go_loopw [82] (fun iv wr => ∃ i : Nat, i ≤ L ∧ iv = .int .i64 i ∧ EX w1 o F3 sE wr) (fun iv _ => L - (intOf iv).toNat)
        case atStart => exact ⟨0, by omega, rfl, E6.out⟩
        case round =>
          obtain ⟨i, hi, rfl, hex⟩ := hrel
          have ER := Lib.hid hex
          clear hex
          by_cases hlt : i < L
          · have hrd := HRD.out i hlt
            have htz : (readT sE (i : Nat) (0 : Nat)).size ≤ 400 := by
              unfold readT
              split
              · exact atT_size HSW.out _
              · decide
            go_wp2_with fail
            refine (ce_read o F3 sE (i : Nat) 0 _ HSW.out ER.out.cell).mono ?_
            rintro e w7 ⟨rfl, hb7⟩
            have E7 := Lib.hid (ER.out.after hb7)
            have hr2 : readC sE (i : Nat) 0 = 0 := hrd.2
            have hr1 : pageV (readT sE (i : Nat) 0) = pv 4 0 0 0 0 ByteArray.empty := hrd.1
            have hr3 : (readT sE (i : Nat) 0).size ≤ 400 := htz
            rw [hr2]
            obtain ⟨t, ht⟩ : ∃ t, readT sE (i : Nat) 0 = t := ⟨_, rfl⟩
            rw [ht] at hr1 hr3 ⊢
            clear hb7 ht hrd htz hr2 ER
            go_wp2_with fail
            refine (fr_dec t _ hr3 (HTB.out _ E7.out.low)).mono ?_
            rintro e w8 ⟨rfl, hb8⟩
            rw [hr1, show pv 4 0 0 0 0 ByteArray.empty = #[.int .i64 4, .int .i64 0, .int .i64 0, .int .i64 0, .int .i64 0, .string ByteArray.empty] from rfl]
            have E8 := Lib.hid (E7.out.after hb8)
            clear hb8 hr1 hr3 E7
            go_wp2_with fail
            go_roundw
            case rel => exact ⟨i + 1, by omega, by go_num, E8.out.after ((Below.refl _ _).alloc (Nat.le_refl _) _)⟩
            case measure => simp [intOf]; omega
          · go_wp2_with fail
            go_ret
            exact ⟨rfl, HB1.out.trans (ER.out.low.mono HB1.out.size)⟩
      have HK1 := Lib.hid hk1
      have HK2 := Lib.hid hk2
      have hkb1 : ((k : Int) == 1) = false := by simpa using hk1
      have hkb2 : ((k : Int) == 2) = false := by simpa using hk2
      have HKF : Hid (hurtsB k = false) := by show (k == 1 || k == 2) = false; rw [hkb1, hkb2]; rfl
      go_wp2_with fail
      refine (ce_pageOf 5 _ (by decide) (HTB.out _ E2.out.low)).mono ?_
      rintro e w3 ⟨rfl, hb3⟩
      have E3 := Lib.hid (E2.out.after hb3)
      clear hb3 E2
      go_wp2_with fail
      refine (ce_prog o F (newSt L 8) 0 (pgS 5) 0 0 0 0 _ HWF.out E3.out.cell (pgS_le 5)).mono ?_
      rintro e w4 ⟨rfl, ⟨F2, hc, hg⟩, ho⟩
      rw [(erP_of L HL1.out).1] at hc
      rw [(erP_of L HL1.out).2]
      have E4 := Lib.hid (E3.out.act hc hg ho)
      have HBX4 : Hid (Blk w4 w.heap.size (fv x k a b) 23) := HBX.out w4 (E4.out.low)
      clear hc hg ho E3
      go_wp2_with (refine wpList_load_row rfl 23 (.tmp 5) rfl w.heap.size rfl 23 (fv x k a b) (0, 0) _ HBX4.out Tryd.underlying23 rfl size_fault ?_)
      refine (ce_erase o F2 (erP L) x k a b _ (HWE.out).1 E4.out.cell (by show 0 < 1000000000; decide) (by show 0 < 1000000000; decide)).mono ?_
      rintro e w5 ⟨rfl, ⟨F3, hc, hg⟩, ho⟩
      have E5 := Lib.hid (E4.out.act hc hg ho)
      obtain ⟨sE, hsE⟩ : ∃ sE, eraseSt (erP L) k a b = sE := ⟨_, rfl⟩
      obtain ⟨ec, hec⟩ : ∃ ec, eraseC (erP L) k = ec := ⟨_, rfl⟩
      have hct := er_counts L k a b
      have hecv : ec = 0 := by
        rw [← hec]
        unfold eraseC endC
        rw [if_neg (by show ¬ false = true; simp), if_neg HK1.out, if_neg HK2.out]
      have HSW : Hid (WfSt sE) := by
        show WfSt sE
        rw [← hsE]
        exact eraseSt_wf (HWE.out).1 _ _ _ (by show 0 < 1000000000; decide) (by show 0 < 1000000000; decide)
      have HRD : Hid (∀ i, i < L → pageV (readT sE (i : Nat) (0 : Nat)) = pv 1 0 0 0 0 ByteArray.empty ∧ readC sE (i : Nat) (0 : Nat) = 0) := by
        show ∀ i, i < L → _
        intro i hi
        rw [← hsE]
        exact er_well (erP L) L i a b k (Or.inl rfl) hi HKF.out
      have HCT : Hid (sE.slc = 1 ∧ sE.tlc = 0) := by
        show _ ∧ _
        rw [← hsE]
        exact ⟨hct.1, hct.2.1⟩
      have HSE := Lib.hid hsE
      rw [hsE] at E5
      rw [hec]
      subst hecv
      clear hc hg ho E4 hec hct hsE HBX4
      go_wp2_with fail
      refine (ce_counts o F3 sE _ HSW.out E5.out.cell).mono ?_
      rintro e w6 ⟨rfl, hb6⟩
      have E6 := Lib.hid (E5.out.after hb6)
      rw [HCT.out.1, HCT.out.2]
      have hq1 : w6.cell? ⟨w.heap.size, 1, none⟩ = some (.int .i64 k) := (HBX.out w6 E6.out.low).cell 1
      clear hb6 E5
      go_wp2_with fail
      go_loopw [82] (fun iv wr => ∃ i : Nat, i ≤ L ∧ iv = .int .i64 i ∧ EX w1 o F3 sE wr) (fun iv _ => L - (intOf iv).toNat)
      case atStart => exact ⟨0, by omega, rfl, E6.out⟩
      case round =>
        obtain ⟨i, hi, rfl, hex⟩ := hrel
        have ER := Lib.hid hex
        clear hex
        by_cases hlt : i < L
        · have hrd := HRD.out i hlt
          have htz : (readT sE (i : Nat) (0 : Nat)).size ≤ 400 := by
            unfold readT
            split
            · exact atT_size HSW.out _
            · decide
          go_wp2_with fail
          refine (ce_read o F3 sE (i : Nat) 0 _ HSW.out ER.out.cell).mono ?_
          rintro e w7 ⟨rfl, hb7⟩
          have E7 := Lib.hid (ER.out.after hb7)
          have hr2 : readC sE (i : Nat) 0 = 0 := hrd.2
          have hr1 : pageV (readT sE (i : Nat) 0) = pv 1 0 0 0 0 ByteArray.empty := hrd.1
          have hr3 : (readT sE (i : Nat) 0).size ≤ 400 := htz
          rw [hr2]
          obtain ⟨t, ht⟩ : ∃ t, readT sE (i : Nat) 0 = t := ⟨_, rfl⟩
          rw [ht] at hr1 hr3 ⊢
          clear hb7 ht hrd htz hr2 ER
          go_wp2_with fail
          refine (fr_dec t _ hr3 (HTB.out _ E7.out.low)).mono ?_
          rintro e w8 ⟨rfl, hb8⟩
          rw [hr1, show pv 1 0 0 0 0 ByteArray.empty = #[.int .i64 1, .int .i64 0, .int .i64 0, .int .i64 0, .int .i64 0, .string ByteArray.empty] from rfl]
          have E8 := Lib.hid (E7.out.after hb8)
          clear hb8 hr1 hr3 E7
          go_wp2_with fail
          go_roundw
          case rel => exact ⟨i + 1, by omega, by go_num, E8.out.after ((Below.refl _ _).alloc (Nat.le_refl _) _)⟩
          case measure => simp [intOf]; omega
        · go_wp2_with fail
          refine (ce_mode o F3 sE _ HSW.out ER.out.cell).mono ?_
          rintro e w7 ⟨rfl, rfl⟩
          have haf := er_after (erP L) L a b k (Or.inl rfl) HL1.out HKF.out
          rw [HSE.out] at haf
          rw [haf.1]
          go_wp2_with fail
          refine (ce_done o F3 sE _ HSW.out ER.out.cell).mono ?_
          rintro e w8 ⟨rfl, rfl⟩
          rw [haf.2.1]
          go_wp2_with fail
          refine (ce_pageOf 1 _ (by decide) (HTB.out _ ER.out.low)).mono ?_
          rintro e w9 ⟨rfl, hb9⟩
          have E9 := Lib.hid (ER.out.after hb9)
          clear hb9
          go_wp2_with fail
          refine (ce_prog o F3 sE 0 (pgS 1) 0 0 0 0 _ HSW.out E9.out.cell (pgS_le 1)).mono ?_
          rintro e wA ⟨rfl, ⟨F4, hc, hg⟩, ho⟩
          have EA := Lib.hid (E9.out.act hc hg ho)
          rw [haf.2.2]
          clear hc hg ho haf
          go_wp2_with fail
          go_ret
          exact ⟨rfl, HB1.out.trans (EA.out.low.mono HB1.out.size)⟩
    · by_cases hk1 : k = 1
      · subst hk1
        go_wp2_with fail
        refine (ce_three 5 _ (by decide) (HTB.out _ E2.out.low)).mono ?_
        rintro e w3 ⟨rfl, hb3⟩
        have E3 := Lib.hid (E2.out.after hb3)
        clear hb3 E2
        go_wp2_with fail
        refine (ce_foggy o F (newSt L 8) 0 (pgS 5) (pgS 6) (pgS 7) 0 0 0 0 _ HWF.out E3.out.cell (pgS_le 5) (pgS_le 6) (pgS_le 7)).mono ?_
        rintro e w4 ⟨rfl, ⟨F2, hc, hg⟩, ho⟩
        rw [(erT_of L HL1.out).1] at hc
        rw [(erT_of L HL1.out).2]
        have E4 := Lib.hid (E3.out.act hc hg ho)
        have HBX4 : Hid (Blk w4 w.heap.size (fv x 1 a b) 23) := HBX.out w4 (E4.out.low)
        clear hc hg ho E3
        go_wp2_with (refine wpList_load_row rfl 23 (.tmp 5) rfl w.heap.size rfl 23 (fv x 1 a b) (0, 0) _ HBX4.out Tryd.underlying23 rfl size_fault ?_)
        refine (ce_erase o F2 (erT L) x 1 a b _ (HWE.out).2 E4.out.cell (by show 0 < 1000000000; decide) (by show 0 < 1000000000; decide)).mono ?_
        rintro e w5 ⟨rfl, ⟨F3, hc, hg⟩, ho⟩
        have E5 := Lib.hid (E4.out.act hc hg ho)
        obtain ⟨sE, hsE⟩ : ∃ sE, eraseSt (erT L) 1 a b = sE := ⟨_, rfl⟩
        obtain ⟨ec, hec⟩ : ∃ ec, eraseC (erT L) 1 = ec := ⟨_, rfl⟩
        have hct := er_counts L 1 a b
        have hecv : ec = 82 := by
          rw [← hec]
          unfold eraseC endC
          rfl
        have HSW : Hid (WfSt sE) := by
          show WfSt sE
          rw [← hsE]
          exact eraseSt_wf (HWE.out).2 _ _ _ (by show 0 < 1000000000; decide) (by show 0 < 1000000000; decide)
        have HRD : Hid (∀ i, i < L → pageV (readT sE (i : Nat) (0 : Nat)) = pv 4 0 0 0 0 ByteArray.empty ∧ readC sE (i : Nat) (0 : Nat) = 0) := by
          show ∀ i, i < L → _
          intro i hi
          rw [← hsE]
          exact er_bad (erT L) L i a b 1 (Or.inr rfl) HL1.out HL64.out hi rfl
        have HCT : Hid (sE.slc = 0 ∧ sE.tlc = 1) := by
          show _ ∧ _
          rw [← hsE]
          exact ⟨hct.2.2.1, hct.2.2.2⟩
        have HSE := Lib.hid hsE
        rw [hsE] at E5
        rw [hec]
        subst hecv
        clear hc hg ho E4 hec hct hsE HBX4
        go_wp2_with fail
        refine (ce_counts o F3 sE _ HSW.out E5.out.cell).mono ?_
        rintro e w6 ⟨rfl, hb6⟩
        have E6 := Lib.hid (E5.out.after hb6)
        rw [HCT.out.1, HCT.out.2]
        have hq1 : w6.cell? ⟨w.heap.size, 1, none⟩ = some (.int .i64 1) := (HBX.out w6 E6.out.low).cell 1
        clear hb6 E5
        go_wp2_with fail
        go_loopw [82] (fun iv wr => ∃ i : Nat, i ≤ L ∧ iv = .int .i64 i ∧ EX w1 o F3 sE wr) (fun iv _ => L - (intOf iv).toNat)
        case atStart => exact ⟨0, by omega, rfl, E6.out⟩
        case round =>
          obtain ⟨i, hi, rfl, hex⟩ := hrel
          have ER := Lib.hid hex
          clear hex
          by_cases hlt : i < L
          · have hrd := HRD.out i hlt
            have htz : (readT sE (i : Nat) (0 : Nat)).size ≤ 400 := by
              unfold readT
              split
              · exact atT_size HSW.out _
              · decide
            go_wp2_with fail
            refine (ce_read o F3 sE (i : Nat) 0 _ HSW.out ER.out.cell).mono ?_
            rintro e w7 ⟨rfl, hb7⟩
            have E7 := Lib.hid (ER.out.after hb7)
            have hr2 : readC sE (i : Nat) 0 = 0 := hrd.2
            have hr1 : pageV (readT sE (i : Nat) 0) = pv 4 0 0 0 0 ByteArray.empty := hrd.1
            have hr3 : (readT sE (i : Nat) 0).size ≤ 400 := htz
            rw [hr2]
            obtain ⟨t, ht⟩ : ∃ t, readT sE (i : Nat) 0 = t := ⟨_, rfl⟩
            rw [ht] at hr1 hr3 ⊢
            clear hb7 ht hrd htz hr2 ER
            go_wp2_with fail
            refine (fr_dec t _ hr3 (HTB.out _ E7.out.low)).mono ?_
            rintro e w8 ⟨rfl, hb8⟩
            rw [hr1, show pv 4 0 0 0 0 ByteArray.empty = #[.int .i64 4, .int .i64 0, .int .i64 0, .int .i64 0, .int .i64 0, .string ByteArray.empty] from rfl]
            have E8 := Lib.hid (E7.out.after hb8)
            clear hb8 hr1 hr3 E7
            go_wp2_with fail
            go_roundw
            case rel => exact ⟨i + 1, by omega, by go_num, E8.out.after ((Below.refl _ _).alloc (Nat.le_refl _) _)⟩
            case measure => simp [intOf]; omega
          · go_wp2_with fail
            go_ret
            exact ⟨rfl, HB1.out.trans (ER.out.low.mono HB1.out.size)⟩
      by_cases hk2 : k = 2
      · subst hk2
        go_wp2_with fail
        refine (ce_three 5 _ (by decide) (HTB.out _ E2.out.low)).mono ?_
        rintro e w3 ⟨rfl, hb3⟩
        have E3 := Lib.hid (E2.out.after hb3)
        clear hb3 E2
        go_wp2_with fail
        refine (ce_foggy o F (newSt L 8) 0 (pgS 5) (pgS 6) (pgS 7) 0 0 0 0 _ HWF.out E3.out.cell (pgS_le 5) (pgS_le 6) (pgS_le 7)).mono ?_
        rintro e w4 ⟨rfl, ⟨F2, hc, hg⟩, ho⟩
        rw [(erT_of L HL1.out).1] at hc
        rw [(erT_of L HL1.out).2]
        have E4 := Lib.hid (E3.out.act hc hg ho)
        have HBX4 : Hid (Blk w4 w.heap.size (fv x 2 a b) 23) := HBX.out w4 (E4.out.low)
        clear hc hg ho E3
        go_wp2_with (refine wpList_load_row rfl 23 (.tmp 5) rfl w.heap.size rfl 23 (fv x 2 a b) (0, 0) _ HBX4.out Tryd.underlying23 rfl size_fault ?_)
        refine (ce_erase o F2 (erT L) x 2 a b _ (HWE.out).2 E4.out.cell (by show 0 < 1000000000; decide) (by show 0 < 1000000000; decide)).mono ?_
        rintro e w5 ⟨rfl, ⟨F3, hc, hg⟩, ho⟩
        have E5 := Lib.hid (E4.out.act hc hg ho)
        obtain ⟨sE, hsE⟩ : ∃ sE, eraseSt (erT L) 2 a b = sE := ⟨_, rfl⟩
        obtain ⟨ec, hec⟩ : ∃ ec, eraseC (erT L) 2 = ec := ⟨_, rfl⟩
        have hct := er_counts L 2 a b
        have hecv : ec = 81 := by
          rw [← hec]
          unfold eraseC endC
          rfl
        have HSW : Hid (WfSt sE) := by
          show WfSt sE
          rw [← hsE]
          exact eraseSt_wf (HWE.out).2 _ _ _ (by show 0 < 1000000000; decide) (by show 0 < 1000000000; decide)
        have HRD : Hid (∀ i, i < L → pageV (readT sE (i : Nat) (0 : Nat)) = pv 4 0 0 0 0 ByteArray.empty ∧ readC sE (i : Nat) (0 : Nat) = 0) := by
          show ∀ i, i < L → _
          intro i hi
          rw [← hsE]
          exact er_bad (erT L) L i a b 2 (Or.inr rfl) HL1.out HL64.out hi rfl
        have HCT : Hid (sE.slc = 0 ∧ sE.tlc = 1) := by
          show _ ∧ _
          rw [← hsE]
          exact ⟨hct.2.2.1, hct.2.2.2⟩
        have HSE := Lib.hid hsE
        rw [hsE] at E5
        rw [hec]
        subst hecv
        clear hc hg ho E4 hec hct hsE HBX4
        go_wp2_with fail
        refine (ce_counts o F3 sE _ HSW.out E5.out.cell).mono ?_
        rintro e w6 ⟨rfl, hb6⟩
        have E6 := Lib.hid (E5.out.after hb6)
        rw [HCT.out.1, HCT.out.2]
        have hq1 : w6.cell? ⟨w.heap.size, 1, none⟩ = some (.int .i64 2) := (HBX.out w6 E6.out.low).cell 1
        clear hb6 E5
        go_wp2_with fail
        go_loopw [82] (fun iv wr => ∃ i : Nat, i ≤ L ∧ iv = .int .i64 i ∧ EX w1 o F3 sE wr) (fun iv _ => L - (intOf iv).toNat)
        case atStart => exact ⟨0, by omega, rfl, E6.out⟩
        case round =>
          obtain ⟨i, hi, rfl, hex⟩ := hrel
          have ER := Lib.hid hex
          clear hex
          by_cases hlt : i < L
          · have hrd := HRD.out i hlt
            have htz : (readT sE (i : Nat) (0 : Nat)).size ≤ 400 := by
              unfold readT
              split
              · exact atT_size HSW.out _
              · decide
            go_wp2_with fail
            refine (ce_read o F3 sE (i : Nat) 0 _ HSW.out ER.out.cell).mono ?_
            rintro e w7 ⟨rfl, hb7⟩
            have E7 := Lib.hid (ER.out.after hb7)
            have hr2 : readC sE (i : Nat) 0 = 0 := hrd.2
            have hr1 : pageV (readT sE (i : Nat) 0) = pv 4 0 0 0 0 ByteArray.empty := hrd.1
            have hr3 : (readT sE (i : Nat) 0).size ≤ 400 := htz
            rw [hr2]
            obtain ⟨t, ht⟩ : ∃ t, readT sE (i : Nat) 0 = t := ⟨_, rfl⟩
            rw [ht] at hr1 hr3 ⊢
            clear hb7 ht hrd htz hr2 ER
            go_wp2_with fail
            refine (fr_dec t _ hr3 (HTB.out _ E7.out.low)).mono ?_
            rintro e w8 ⟨rfl, hb8⟩
            rw [hr1, show pv 4 0 0 0 0 ByteArray.empty = #[.int .i64 4, .int .i64 0, .int .i64 0, .int .i64 0, .int .i64 0, .string ByteArray.empty] from rfl]
            have E8 := Lib.hid (E7.out.after hb8)
            clear hb8 hr1 hr3 E7
            go_wp2_with fail
            go_roundw
            case rel => exact ⟨i + 1, by omega, by go_num, E8.out.after ((Below.refl _ _).alloc (Nat.le_refl _) _)⟩
            case measure => simp [intOf]; omega
          · go_wp2_with fail
            go_ret
            exact ⟨rfl, HB1.out.trans (ER.out.low.mono HB1.out.size)⟩
      have HK1 := Lib.hid hk1
      have HK2 := Lib.hid hk2
      have hkb1 : ((k : Int) == 1) = false := by simpa using hk1
      have hkb2 : ((k : Int) == 2) = false := by simpa using hk2
      have HKF : Hid (hurtsB k = false) := by show (k == 1 || k == 2) = false; rw [hkb1, hkb2]; rfl
      go_wp2_with fail
      refine (ce_three 5 _ (by decide) (HTB.out _ E2.out.low)).mono ?_
      rintro e w3 ⟨rfl, hb3⟩
      have E3 := Lib.hid (E2.out.after hb3)
      clear hb3 E2
      go_wp2_with fail
      refine (ce_foggy o F (newSt L 8) 0 (pgS 5) (pgS 6) (pgS 7) 0 0 0 0 _ HWF.out E3.out.cell (pgS_le 5) (pgS_le 6) (pgS_le 7)).mono ?_
      rintro e w4 ⟨rfl, ⟨F2, hc, hg⟩, ho⟩
      rw [(erT_of L HL1.out).1] at hc
      rw [(erT_of L HL1.out).2]
      have E4 := Lib.hid (E3.out.act hc hg ho)
      have HBX4 : Hid (Blk w4 w.heap.size (fv x k a b) 23) := HBX.out w4 (E4.out.low)
      clear hc hg ho E3
      go_wp2_with (refine wpList_load_row rfl 23 (.tmp 5) rfl w.heap.size rfl 23 (fv x k a b) (0, 0) _ HBX4.out Tryd.underlying23 rfl size_fault ?_)
      refine (ce_erase o F2 (erT L) x k a b _ (HWE.out).2 E4.out.cell (by show 0 < 1000000000; decide) (by show 0 < 1000000000; decide)).mono ?_
      rintro e w5 ⟨rfl, ⟨F3, hc, hg⟩, ho⟩
      have E5 := Lib.hid (E4.out.act hc hg ho)
      obtain ⟨sE, hsE⟩ : ∃ sE, eraseSt (erT L) k a b = sE := ⟨_, rfl⟩
      obtain ⟨ec, hec⟩ : ∃ ec, eraseC (erT L) k = ec := ⟨_, rfl⟩
      have hct := er_counts L k a b
      have hecv : ec = 0 := by
        rw [← hec]
        unfold eraseC endC
        rw [if_neg (by show ¬ false = true; simp), if_neg HK1.out, if_neg HK2.out]
      have HSW : Hid (WfSt sE) := by
        show WfSt sE
        rw [← hsE]
        exact eraseSt_wf (HWE.out).2 _ _ _ (by show 0 < 1000000000; decide) (by show 0 < 1000000000; decide)
      have HRD : Hid (∀ i, i < L → pageV (readT sE (i : Nat) (0 : Nat)) = pv 1 0 0 0 0 ByteArray.empty ∧ readC sE (i : Nat) (0 : Nat) = 0) := by
        show ∀ i, i < L → _
        intro i hi
        rw [← hsE]
        exact er_well (erT L) L i a b k (Or.inr rfl) hi HKF.out
      have HCT : Hid (sE.slc = 0 ∧ sE.tlc = 1) := by
        show _ ∧ _
        rw [← hsE]
        exact ⟨hct.2.2.1, hct.2.2.2⟩
      have HSE := Lib.hid hsE
      rw [hsE] at E5
      rw [hec]
      subst hecv
      clear hc hg ho E4 hec hct hsE HBX4
      go_wp2_with fail
      refine (ce_counts o F3 sE _ HSW.out E5.out.cell).mono ?_
      rintro e w6 ⟨rfl, hb6⟩
      have E6 := Lib.hid (E5.out.after hb6)
      rw [HCT.out.1, HCT.out.2]
      have hq1 : w6.cell? ⟨w.heap.size, 1, none⟩ = some (.int .i64 k) := (HBX.out w6 E6.out.low).cell 1
      clear hb6 E5
      go_wp2_with fail
      go_loopw [82] (fun iv wr => ∃ i : Nat, i ≤ L ∧ iv = .int .i64 i ∧ EX w1 o F3 sE wr) (fun iv _ => L - (intOf iv).toNat)
      case atStart => exact ⟨0, by omega, rfl, E6.out⟩
      case round =>
        obtain ⟨i, hi, rfl, hex⟩ := hrel
        have ER := Lib.hid hex
        clear hex
        by_cases hlt : i < L
        · have hrd := HRD.out i hlt
          have htz : (readT sE (i : Nat) (0 : Nat)).size ≤ 400 := by
            unfold readT
            split
            · exact atT_size HSW.out _
            · decide
          go_wp2_with fail
          refine (ce_read o F3 sE (i : Nat) 0 _ HSW.out ER.out.cell).mono ?_
          rintro e w7 ⟨rfl, hb7⟩
          have E7 := Lib.hid (ER.out.after hb7)
          have hr2 : readC sE (i : Nat) 0 = 0 := hrd.2
          have hr1 : pageV (readT sE (i : Nat) 0) = pv 1 0 0 0 0 ByteArray.empty := hrd.1
          have hr3 : (readT sE (i : Nat) 0).size ≤ 400 := htz
          rw [hr2]
          obtain ⟨t, ht⟩ : ∃ t, readT sE (i : Nat) 0 = t := ⟨_, rfl⟩
          rw [ht] at hr1 hr3 ⊢
          clear hb7 ht hrd htz hr2 ER
          go_wp2_with fail
          refine (fr_dec t _ hr3 (HTB.out _ E7.out.low)).mono ?_
          rintro e w8 ⟨rfl, hb8⟩
          rw [hr1, show pv 1 0 0 0 0 ByteArray.empty = #[.int .i64 1, .int .i64 0, .int .i64 0, .int .i64 0, .int .i64 0, .string ByteArray.empty] from rfl]
          have E8 := Lib.hid (E7.out.after hb8)
          clear hb8 hr1 hr3 E7
          go_wp2_with fail
          go_roundw
          case rel => exact ⟨i + 1, by omega, by go_num, E8.out.after ((Below.refl _ _).alloc (Nat.le_refl _) _)⟩
          case measure => simp [intOf]; omega
        · go_wp2_with fail
          refine (ce_mode o F3 sE _ HSW.out ER.out.cell).mono ?_
          rintro e w7 ⟨rfl, rfl⟩
          have haf := er_after (erT L) L a b k (Or.inr rfl) HL1.out HKF.out
          rw [HSE.out] at haf
          rw [haf.1]
          go_wp2_with fail
          refine (ce_done o F3 sE _ HSW.out ER.out.cell).mono ?_
          rintro e w8 ⟨rfl, rfl⟩
          rw [haf.2.1]
          go_wp2_with fail
          refine (ce_pageOf 1 _ (by decide) (HTB.out _ ER.out.low)).mono ?_
          rintro e w9 ⟨rfl, hb9⟩
          have E9 := Lib.hid (ER.out.after hb9)
          clear hb9
          go_wp2_with fail
          refine (ce_prog o F3 sE 0 (pgS 1) 0 0 0 0 _ HSW.out E9.out.cell (pgS_le 1)).mono ?_
          rintro e wA ⟨rfl, ⟨F4, hc, hg⟩, ho⟩
          have EA := Lib.hid (E9.out.act hc hg ho)
          rw [haf.2.2]
          clear hc hg ho haf
          go_wp2_with fail
          go_ret
          exact ⟨rfl, HB1.out.trans (EA.out.low.mono HB1.out.size)⟩

end Go.Proofs.YtjmoecfgpfdncaaDoor

/- A struct of four numbers, by value, as a parameter: opened and shut. -/
namespace Go.Proofs.YtjmoecfgpfdncaaDoor
open Go.RowKit Go.ChangeShapes Go.WideShapes Go.ChangeAt

section
variable {H : Type} {enc : TypeId × Value → H} {P : Program} {w : World} {base : Nat} {spare : Nat → Bool} {held : Bool}
theorem open_ints4 {r : Reach} {b0 : Nat} {t : TypeId} {f0 f1 f2 f3 : Field} {v : Value} {d : DataW H} {ps : List MemPlace} (hs : P.underlying t = some (.struct #[f0, f1, f2, f3])) (hone : Deep.oneCellFields P #[f0, f1, f2, f3] = true) (hC : P.cellsOf t = 4)
    (e0 : P.underlying f0.type = some (.int .i64)) (e1 : P.underlying f1.type = some (.int .i64)) (e2 : P.underlying f2.type = some (.int .i64)) (e3 : P.underlying f3.type = some (.int .i64))
    (hv : Value.okWide P w r b0 t v) (h : DataW.Trod enc P w base spare held t v d ps) :
    ∃ a b c x : Int, v = .agg #[.int .i64 a, .int .i64 b, .int .i64 c, .int .i64 x] ∧ d = .agg [.lit (.int .i64 a), .lit (.int .i64 b), .lit (.int .i64 c), .lit (.int .i64 x)] ∧ ps = [] ∧
      (Lit.int .i64 a).wf = true ∧ (Lit.int .i64 b).wf = true ∧ (Lit.int .i64 c).wf = true ∧ (Lit.int .i64 x).wf = true := by
  obtain ⟨v0, v1, v2, v3, y0, y1, y2, y3, n, rfl, rfl, rfl, k0, k1, k2, k3⟩ := Joins.open_agg4 hs hone hC hv h
  obtain ⟨a, a0, a1, wa⟩ := DataW.trod_int e0 k0
  obtain ⟨b, b0, b1, wb⟩ := DataW.trod_int e1 k1
  obtain ⟨c, c0, c1, wc⟩ := DataW.trod_int e2 k2
  obtain ⟨x, x0, x1, wx⟩ := DataW.trod_int e3 k3
  simp at a0 b0 c0 x0
  subst a0 b0 c0 x0 a1 b1 c1 x1
  exact ⟨a, b, c, x, rfl, rfl, rfl, wa, wb, wc, wx⟩
theorem shut_ints4 {t : TypeId} {f0 f1 f2 f3 : Field} {a b c x : Int} (hs : P.underlying t = some (.struct #[f0, f1, f2, f3])) (hone : Deep.oneCellFields P #[f0, f1, f2, f3] = true) (hC : P.cellsOf t = 4)
    (e0 : P.underlying f0.type = some (.int .i64)) (e1 : P.underlying f1.type = some (.int .i64)) (e2 : P.underlying f2.type = some (.int .i64)) (e3 : P.underlying f3.type = some (.int .i64))
    (wa : (Lit.int .i64 a).wf = true) (wb : (Lit.int .i64 b).wf = true) (wc : (Lit.int .i64 c).wf = true) (wx : (Lit.int .i64 x).wf = true) :
    DataW.Trod enc P w base spare held t (.agg #[.int .i64 a, .int .i64 b, .int .i64 c, .int .i64 x]) (.agg [.lit (.int .i64 a), .lit (.int .i64 b), .lit (.int .i64 c), .lit (.int .i64 x)]) [] :=
  Joins.shut_agg4 hs hone hC (Joins.field_of_Trod (shut_int e0 wa) rfl) (Joins.field_of_Trod (shut_int e1 wb) rfl) (Joins.field_of_Trod (shut_int e2 wc) rfl) (Joins.field_of_Trod (shut_int e3 wx) rfl)
end

end Go.Proofs.YtjmoecfgpfdncaaDoor
