/- Texts of one claim, merged: CeCA, CeCB, CeCC, CeCD, CeC1, CeL1, CeP2. -/
import Derived.Test.YtjmoecfgpfdncaaDoorM12
import Derived.Test.YtjmoecfgpfdncaaDoorM3
import Derived.Lib.SliceRun
import Derived.Laws.MakeOwn
import Derived.Test.YtjmoecfgpfdncaaDoorM9

/- Package cell, walked: Erase. -/
namespace Go.Proofs.YtjmoecfgpfdncaaDoor
set_option maxRecDepth 100000
open Go.RowKit

/-- the world while a line is hurt -/
structure CE6 (wr : World) (o g bc bh : Nat) (cs : Array Value) (l2 : List Ln) (x k a b : Int) (w : World) : Prop where
  cell : Blk w o cs 50
  rows : LnsAt w g l2
  box : w.cell? ⟨bc, 0, none⟩ = some (.pointer (some ⟨o, 0, none⟩))
  how : Blk w bh (fv x k a b) 23
  low : Only (FF o g) wr w
theorem CE6.call {wr w w' : World} {o g bc bh : Nat} {cs : Array Value} {l2 : List Ln} {x k a b : Int} (h : CE6 wr o g bc bh cs l2 x k a b w) (hb : Below w.heap.size w w') : CE6 wr o g bc bh cs l2 x k a b w' :=
  ⟨h.cell.after hb, h.rows.after hb, (hb.cell (p := ⟨bc, 0, none⟩) (cell_lt h.box)).trans h.box, h.how.after hb, h.low.trans (Only.of_below (F := FF o g) hb) (fun _ hk => Or.inl hk)⟩
def ZE (wr : World) (o g : Nat) (cs : Array Value) (l3 : List Ln) (w : World) : Prop := Blk w o cs 50 ∧ LnsAt w g l3 ∧ Only (FF o g) wr w
theorem ZE.call {wr w w' : World} {o g : Nat} {cs : Array Value} {l3 : List Ln} (h : ZE wr o g cs l3 w) (hb : Below w.heap.size w w') : ZE wr o g cs l3 w' := ⟨h.1.after hb, h.2.1.after hb, h.2.2.trans (Only.of_below (F := FF o g) hb) (fun _ hk => Or.inl hk)⟩
theorem CE6.store {wr w : World} {o g bc bh i : Nat} {cs : Array Value} {l2 : List Ln} {x k a b : Int} (h : CE6 wr o g bc bh cs l2 x k a b w) (hne : o ≠ g) (hi : i < l2.length) (ln : Ln) : ZE wr o g cs (l2.set i ln) (w.setCells g (i * 4) (lv ln).toList) := by
  refine ⟨?_, h.rows.set i ln hi, Only.setCells g (Or.inr rfl) _ _ _ h.low⟩
  have h1 := h.cell
  unfold Blk at *
  rw [setCells_heap_ne _ _ hne]
  exact h1
/-- what each operation of the region ER leaves -/
def vsER (o g cap L bh i : Nat) (a b : Int) (tn hh : Ln) : List (Option (Tmp × Value)) :=
  [some (18, .pointer (some ⟨o, 0, none⟩)), some (19, .pointer (some ⟨o, 0, none⟩)), some (20, .pointer (some ⟨o, 0, none⟩)), some (21, .slice (some ⟨g, 0, none⟩) L cap), some (22, .int .i64 (i : Int)), some (23, .pointer (some ⟨o, 0, none⟩)), some (24, .int .i64 (i : Int)), some (25, .agg (lv tn)), some (26, .pointer (some ⟨bh, 2, none⟩)), some (27, .int .i64 a), some (28, .pointer (some ⟨bh, 3, none⟩)), some (29, .int .i64 b), some (30, .agg (lv hh)), some (31, .pointer (some ⟨g, i * 4, none⟩)), none]
/-- the frame while the region ER runs -/
def BaseER (bc bh i : Nat) (arr0 : Array Value) (a : Act) : Prop := ∃ u : Nat → Value, a = ⟨#[arr0.getD 0 undef, .pointer (some ⟨bc, 0, none⟩), .pointer (some ⟨bh, 0, none⟩), arr0.getD 3 undef, .int .i64 (i : Int), arr0.getD 5 undef, arr0.getD 6 undef, arr0.getD 7 undef, arr0.getD 8 undef, arr0.getD 9 undef, arr0.getD 10 undef, arr0.getD 11 undef, arr0.getD 12 undef, arr0.getD 13 undef, arr0.getD 14 undef, arr0.getD 15 undef, arr0.getD 16 undef, arr0.getD 17 undef, u 18, u 19, u 20, u 21, u 22, u 23, u 24, u 25, u 26, u 27, u 28, u 29, u 30, u 31, arr0.getD 32 undef, arr0.getD 33 undef, arr0.getD 34 undef, arr0.getD 35 undef, arr0.getD 36 undef, arr0.getD 37 undef, arr0.getD 38 undef, arr0.getD 39 undef, arr0.getD 40 undef], []⟩
theorem BaseER.of {bc bh i : Nat} {arr0 : Array Value} (arr : Array Value) (h : arr = #[arr0.getD 0 undef, .pointer (some ⟨bc, 0, none⟩), .pointer (some ⟨bh, 0, none⟩), arr0.getD 3 undef, .int .i64 (i : Int), arr0.getD 5 undef, arr0.getD 6 undef, arr0.getD 7 undef, arr0.getD 8 undef, arr0.getD 9 undef, arr0.getD 10 undef, arr0.getD 11 undef, arr0.getD 12 undef, arr0.getD 13 undef, arr0.getD 14 undef, arr0.getD 15 undef, arr0.getD 16 undef, arr0.getD 17 undef, arr.getD 18 undef, arr.getD 19 undef, arr.getD 20 undef, arr.getD 21 undef, arr.getD 22 undef, arr.getD 23 undef, arr.getD 24 undef, arr.getD 25 undef, arr.getD 26 undef, arr.getD 27 undef, arr.getD 28 undef, arr.getD 29 undef, arr.getD 30 undef, arr.getD 31 undef, arr0.getD 32 undef, arr0.getD 33 undef, arr0.getD 34 undef, arr0.getD 35 undef, arr0.getD 36 undef, arr0.getD 37 undef, arr0.getD 38 undef, arr0.getD 39 undef, arr0.getD 40 undef]) : BaseER bc bh i arr0 ⟨arr, []⟩ := ⟨fun i => arr.getD i undef, by rw [← h]⟩
theorem BaseER.put18 {bc bh i : Nat} {arr0 : Array Value} (a : Act) (v : Value) (h : BaseER bc bh i arr0 a) : BaseER bc bh i arr0 (a.put (some 18) v) := by
  obtain ⟨u, rfl⟩ := h
  exact ⟨fun i => if i = 18 then v else u i, by kernel_rfl⟩
theorem BaseER.put19 {bc bh i : Nat} {arr0 : Array Value} (a : Act) (v : Value) (h : BaseER bc bh i arr0 a) : BaseER bc bh i arr0 (a.put (some 19) v) := by
  obtain ⟨u, rfl⟩ := h
  exact ⟨fun i => if i = 19 then v else u i, by kernel_rfl⟩
theorem BaseER.put20 {bc bh i : Nat} {arr0 : Array Value} (a : Act) (v : Value) (h : BaseER bc bh i arr0 a) : BaseER bc bh i arr0 (a.put (some 20) v) := by
  obtain ⟨u, rfl⟩ := h
  exact ⟨fun i => if i = 20 then v else u i, by kernel_rfl⟩
theorem BaseER.put21 {bc bh i : Nat} {arr0 : Array Value} (a : Act) (v : Value) (h : BaseER bc bh i arr0 a) : BaseER bc bh i arr0 (a.put (some 21) v) := by
  obtain ⟨u, rfl⟩ := h
  exact ⟨fun i => if i = 21 then v else u i, by kernel_rfl⟩
theorem BaseER.put22 {bc bh i : Nat} {arr0 : Array Value} (a : Act) (v : Value) (h : BaseER bc bh i arr0 a) : BaseER bc bh i arr0 (a.put (some 22) v) := by
  obtain ⟨u, rfl⟩ := h
  exact ⟨fun i => if i = 22 then v else u i, by kernel_rfl⟩
theorem BaseER.put23 {bc bh i : Nat} {arr0 : Array Value} (a : Act) (v : Value) (h : BaseER bc bh i arr0 a) : BaseER bc bh i arr0 (a.put (some 23) v) := by
  obtain ⟨u, rfl⟩ := h
  exact ⟨fun i => if i = 23 then v else u i, by kernel_rfl⟩
theorem BaseER.put24 {bc bh i : Nat} {arr0 : Array Value} (a : Act) (v : Value) (h : BaseER bc bh i arr0 a) : BaseER bc bh i arr0 (a.put (some 24) v) := by
  obtain ⟨u, rfl⟩ := h
  exact ⟨fun i => if i = 24 then v else u i, by kernel_rfl⟩
theorem BaseER.put25 {bc bh i : Nat} {arr0 : Array Value} (a : Act) (v : Value) (h : BaseER bc bh i arr0 a) : BaseER bc bh i arr0 (a.put (some 25) v) := by
  obtain ⟨u, rfl⟩ := h
  exact ⟨fun i => if i = 25 then v else u i, by kernel_rfl⟩
theorem BaseER.put26 {bc bh i : Nat} {arr0 : Array Value} (a : Act) (v : Value) (h : BaseER bc bh i arr0 a) : BaseER bc bh i arr0 (a.put (some 26) v) := by
  obtain ⟨u, rfl⟩ := h
  exact ⟨fun i => if i = 26 then v else u i, by kernel_rfl⟩
theorem BaseER.put27 {bc bh i : Nat} {arr0 : Array Value} (a : Act) (v : Value) (h : BaseER bc bh i arr0 a) : BaseER bc bh i arr0 (a.put (some 27) v) := by
  obtain ⟨u, rfl⟩ := h
  exact ⟨fun i => if i = 27 then v else u i, by kernel_rfl⟩
theorem BaseER.put28 {bc bh i : Nat} {arr0 : Array Value} (a : Act) (v : Value) (h : BaseER bc bh i arr0 a) : BaseER bc bh i arr0 (a.put (some 28) v) := by
  obtain ⟨u, rfl⟩ := h
  exact ⟨fun i => if i = 28 then v else u i, by kernel_rfl⟩
theorem BaseER.put29 {bc bh i : Nat} {arr0 : Array Value} (a : Act) (v : Value) (h : BaseER bc bh i arr0 a) : BaseER bc bh i arr0 (a.put (some 29) v) := by
  obtain ⟨u, rfl⟩ := h
  exact ⟨fun i => if i = 29 then v else u i, by kernel_rfl⟩
theorem BaseER.put30 {bc bh i : Nat} {arr0 : Array Value} (a : Act) (v : Value) (h : BaseER bc bh i arr0 a) : BaseER bc bh i arr0 (a.put (some 30) v) := by
  obtain ⟨u, rfl⟩ := h
  exact ⟨fun i => if i = 30 then v else u i, by kernel_rfl⟩
theorem BaseER.put31 {bc bh i : Nat} {arr0 : Array Value} (a : Act) (v : Value) (h : BaseER bc bh i arr0 a) : BaseER bc bh i arr0 (a.put (some 31) v) := by
  obtain ⟨u, rfl⟩ := h
  exact ⟨fun i => if i = 31 then v else u i, by kernel_rfl⟩

theorem toldR_at (m : Int) (L d : Nat) (l2 ls : List Ln) (i : Nat) (h : lnAt l2 i = lnAt ls i) : toldR m L d l2 i = toldR m L d ls i := by unfold toldR; rw [h]
theorem toldR_size {m : Int} {L d : Nat} {ls : List Ln} (i : Nat) (hs : ∀ t, ((lnAt ls i).pt t).size ≤ 400) (t : Nat) : ((toldR m L d ls i).pt t).size ≤ 400 := by
  unfold toldR
  split
  · rw [hurtL_pt]
    split
    · exact hs t
    · rw [hurtT_size]; exact hs t
  · exact hs t
/-- so many lines are hurt -/
def Ruined (m : Int) (L d : Nat) (ls : List Ln) (a b : Int) (i : Nat) (l2 : List Ln) : Prop := l2.length = L ∧ (∀ j, j < i → lnAt l2 j = hurtL (toldR m L d ls j) a b) ∧ (∀ j, i ≤ j → lnAt l2 j = lnAt ls j)
theorem Ruined.next {m : Int} {L d : Nat} {ls : List Ln} {a b : Int} {i : Nat} {l2 : List Ln} (h : Ruined m L d ls a b i l2) (hi : i < L) : Ruined m L d ls a b (i + 1) (l2.set i (hurtL (toldR m L d ls i) a b)) := by
  obtain ⟨h1, h2, h3⟩ := h
  refine ⟨by simp [h1], fun j hj => ?_, fun j hj => ?_⟩
  · rw [lnAt_set _ _ _ _ (by omega)]
    split
    · rename_i e; rw [e]
    · exact h2 j (by omega)
  · rw [lnAt_set _ _ _ _ (by omega), if_neg (by omega)]
    exact h3 j (by omega)

set_option maxHeartbeats 2000000 in
theorem ce_erase1_no (o L g cap : Nat) (bl : ByteArray) (m : Int) (d sl tl : Nat) (bad torn : Bool) (ls : List Ln) (bc bh : Nat) (x k a b : Int) (w : World)
    (hk : Blk w o (cc L g cap bl m d sl tl bad torn) 50) (hl : LnsAt w g ls) (hlen : ls.length = L) (hne : o ≠ g) (h1 : 1 ≤ L) (h64 : L ≤ 64) (hd : d ≤ 2 * L) (hm : m = 0 ∨ m = 1 ∨ m = 2) (hsl : sl < 1000000000) (htl : tl < 1000000000)
    (hs : ∀ i t, ((lnAt ls i).pt t).size ≤ 400) (hbc : w.cell? ⟨bc, 0, none⟩ = some (.pointer (some ⟨o, 0, none⟩))) (hbh : Blk w bh (fv x k a b) 23) (n1 : bc ≠ o ∧ bc ≠ g) (n2 : bh ≠ o ∧ bh ≠ g) :
    Calls Tryd.prog 33 #[.bool false, .pointer (some ⟨bc, 0, none⟩), .pointer (some ⟨bh, 0, none⟩)] w fun e w' => e = .returned (.tuple #[]) ∧
      Blk w' o (cc L g cap bl (if m = 0 then 1 else m) d (if m = 2 then sl else sl + 1) (if m = 2 then tl + 1 else tl) bad torn) 50 ∧ (∃ l2, Ruined m L d ls a b L l2 ∧ LnsAt w' g l2) ∧ Only (FF o g) w w' := by
  obtain ⟨sl', hsl'⟩ : ∃ sl', (if m = 2 then sl else sl + 1) = sl' := ⟨_, rfl⟩
  obtain ⟨tl', htl'⟩ : ∃ tl', (if m = 2 then tl + 1 else tl) = tl' := ⟨_, rfl⟩
  obtain ⟨m', hm'⟩ : ∃ m', (if m = 0 then 1 else m) = m' := ⟨_, rfl⟩
  have hcn := ce_count o L g cap bl m d sl tl bad torn w hk hsl htl
  rw [hsl', htl'] at hcn
  rw [hsl', htl', hm']
  have HCN := Lib.hid hcn
  have HL := Lib.hid hl
  have HLEN := Lib.hid hlen
  have HNE := Lib.hid hne
  have HM' := Lib.hid hm'
  have HM := Lib.hid hm
  have HS := Lib.hid hs
  have HBH := Lib.hid hbh
  have HBC := Lib.hid hbc
  have HN := Lib.hid (⟨n1, n2⟩ : (bc ≠ o ∧ bc ≠ g) ∧ (bh ≠ o ∧ bh ≠ g))
  have HI := Lib.hid (⟨h1, h64, hd⟩ : 1 ≤ L ∧ L ≤ 64 ∧ d ≤ 2 * L)
  clear hsl' htl' hm' hcn hl hlen hne hm hs hbh n1 n2 hk h1 hd hsl htl
  go_enter Tryd.func33, Tryd.ntmps33
  go_wp2_with fail
  refine HCN.out.mono ?_
  rintro e w2 ⟨rfl, hk2, ho2⟩
  have hr2 := HL.out.only ho2 (fun h => HNE.out h.symm)
  have ho2 : Only (FF o g) w w2 := ho2.weak (fun _ h => Or.inl h)
  have hC : CE6 w o g bc bh (cc L g cap bl m d sl' tl' bad torn) ls x k a b w2 :=
    ⟨hk2, hr2, ho2.cell HBC.out (fun h => by have h : bc = o ∨ bc = g := h; have := HN.out; omega), HBH.out.only ho2 (fun h => by have h : bh = o ∨ bh = g := h; have := HN.out; omega), ho2⟩
  have cb := hC.box
  have c0 : w2.cell? ⟨o, 0, none⟩ = some (.slice (some ⟨g, 0, none⟩) L cap) := hC.cell.cell 0
  have HC2 := Lib.hid hC
  clear hk2 hr2 ho2 hC HL HBH HCN
  go_wp2_with fail
  go_loopw [15] (fun iv wr => ∃ i : Nat, i ≤ L ∧ iv = .int .i64 i ∧ ∃ l2, Ruined m L d ls a b i l2 ∧ CE6 w o g bc bh (cc L g cap bl m d sl' tl' bad torn) l2 x k a b wr) (fun iv _ => L - (intOf iv).toNat)
  case atStart => exact ⟨0, Nat.zero_le _, rfl, ls, ⟨HLEN.out, fun j hj => absurd hj (Nat.not_lt_zero _), fun _ _ => rfl⟩, HC2.out⟩
  case round =>
    obtain ⟨i, hi, rfl, l2, hru, hC⟩ := hrel
    clear HC2 cb c0
    have HRU := Lib.hid hru
    have HC := Lib.hid hC
    by_cases hlt : i < L
    · obtain ⟨cs, hcs⟩ : ∃ cs, cc L g cap bl m d sl' tl' bad torn = cs := ⟨_, rfl⟩
      have HCS := Lib.hid hcs
      have hC0 : CE6 wr o g bc bh cs l2 x k a b wr := by rw [← hcs]; exact ⟨hC.cell, hC.rows, hC.box, hC.how, Only.refl _ _⟩
      have HC0 := Lib.hid hC0
      obtain ⟨tn, htn⟩ : ∃ tn, toldR m L d ls i = tn := ⟨_, rfl⟩
      obtain ⟨hh, hhh⟩ : ∃ hh, hurtL tn a b = hh := ⟨_, rfl⟩
      have hsz : ∀ t, (tn.pt t).size ≤ 400 := fun t => by rw [← htn]; exact toldR_size i (HS.out i) t
      have HTD : Hid (∀ w', CE6 wr o g bc bh cs l2 x k a b w' → Calls Tryd.prog 27 #[.pointer (some ⟨o, 0, none⟩), .int .i64 (i : Int)] w' fun e w'' => e = .returned (.agg (lv tn)) ∧ Below w'.heap.size w' w'') := fun w' h => by
        have hlen2 := HRU.out.1
        have hat := HRU.out.2.2 i (Nat.le_refl _)
        have hI := HI.out
        have hcell := h.cell
        rw [← HCS.out] at hcell
        rw [← htn, ← toldR_at m L d l2 ls i hat]
        exact ce_told o L g cap bl m d sl' tl' bad torn l2 i w' hcell h.rows hlen2 hI.1 hI.2.1 hI.2.2 hlt (fun t => by rw [hat]; exact HS.out i t) HM.out
      have HHB : Hid (∀ w', Calls Tryd.prog 35 #[.agg (lv tn), .int .i64 a, .int .i64 b] w' fun e w'' => e = .returned (.agg (lv hh)) ∧ Below w'.heap.size w' w'') := fun w' => by
        rw [← hhh]
        exact ce_hurtBy tn a b w' hsz
      have HLI : Hid (i < l2.length) := by
        show i < l2.length
        rw [hru.1]; exact hlt
      have HLT : Hid ((i : Int) < (L : Int)) := by
        show (i : Int) < (L : Int)
        omega
      have HTN := Lib.hid htn
      have HHH := Lib.hid hhh
      clear hcs hC0 htn hhh hsz hru hC
      go_wp2_with fail
      rename_i K0 hK0
      generalize hA : (⟨_, _⟩ : Act) = A
      have HA := Lib.hid hA
      have HBT : Hid (BaseER bc bh i A.tmps A) := by
        show BaseER _ _ _ _ _
        rw [← hA]
        exact BaseER.of _ (by kernel_rfl)
      clear hA
      refine wp_region_list4 14 (SV2 (vsER o g cap L bh i a b tn hh) (fun _ => [])) (BaseER bc bh i A.tmps) (CE6 wr o g bc bh cs l2 x k a b) (fun w1 w2 => ZE wr o g cs (l2.set i hh) w1 → ZE wr o g cs (l2.set i hh) w2) (RV (vsER o g cap L bh i a b tn hh) (fun j _ w1 => j = 14 → ZE wr o g cs (l2.set i hh) w1)) rfl (by decide) (by kernel_rfl) (by kernel_rfl) (RV.ext2 (f := fun _ => []) (fun _ _ _ _ _ h1 _ h2 h3 => h2 (h1 h3))) ?_ (HC0.out.call (Below.refl _ _).drew) HBT.out ?_ ?_
      · exact ⟨BaseER.put18, BaseER.put19, BaseER.put20, BaseER.put21, BaseER.put22, BaseER.put23, BaseER.put24, BaseER.put25, BaseER.put26, BaseER.put27, BaseER.put28, BaseER.put29, BaseER.put30, BaseER.put31, fun a v h => h, trivial⟩
      · refine ⟨?_, ?_, ?_, ?_, ?_, ?_, ?_, ?_, ?_, ?_, ?_, ?_, ?_, ?_, ?_, trivial⟩
        all_goals
          intro a w' hC hB hR
          obtain ⟨u, rfl⟩ := hB
          have HC := Lib.hid hC
          clear hC
          clear hK0
        · have hc : w'.cell? ⟨bc, 0, none⟩ = some (.pointer (some ⟨o, 0, none⟩)) := HC.out.box
          clear hR
          refine if_yes (by kernel_rfl) ?_
          unfold Oper.wp
          go_simp
          exact ⟨.pointer (some ⟨o, 0, none⟩), rfl, (by first | exact HC.out | exact fun _ => HC.out), (fun hz => hz), rfl⟩
        · have h18 : u 18 = .pointer (some ⟨o, 0, none⟩) := hR ⟨0, .data⟩ (by simp) rfl
          clear hR
          simp only [h18]
          clear h18
          refine if_yes (by kernel_rfl) ?_
          unfold Oper.wp
          go_simp
          exact ⟨.pointer (some ⟨o, 0, none⟩), rfl, (by first | exact HC.out | exact fun _ => HC.out), (fun hz => hz), rfl⟩
        · have h19 : u 19 = .pointer (some ⟨o, 0, none⟩) := hR ⟨1, .data⟩ (by simp) rfl
          clear hR
          simp only [h19]
          clear h19
          refine if_yes (by kernel_rfl) ?_
          unfold Oper.wp
          go_simp
          exact ⟨.pointer (some ⟨o, 0, none⟩), rfl, (by first | exact HC.out | exact fun _ => HC.out), (fun hz => hz), rfl⟩
        · have h20 : u 20 = .pointer (some ⟨o, 0, none⟩) := hR ⟨2, .data⟩ (by simp) rfl
          have hc : w'.cell? ⟨o, 0, none⟩ = some (.slice (some ⟨g, 0, none⟩) L cap) := by rw [HC.out.cell.cell 0, ← HCS.out]; rfl
          clear hR
          simp only [h20]
          clear h20
          refine if_yes (by kernel_rfl) ?_
          unfold Oper.wp
          go_simp
          exact ⟨.slice (some ⟨g, 0, none⟩) L cap, rfl, (by first | exact HC.out | exact fun _ => HC.out), (fun hz => hz), rfl⟩
        · clear hR
          refine if_yes (by kernel_rfl) ?_
          unfold Oper.wp
          go_simp
          exact ⟨.int .i64 (i : Int), rfl, (by first | exact HC.out | exact fun _ => HC.out), (fun hz => hz), rfl⟩
        · have hc : w'.cell? ⟨bc, 0, none⟩ = some (.pointer (some ⟨o, 0, none⟩)) := HC.out.box
          clear hR
          refine if_yes (by kernel_rfl) ?_
          unfold Oper.wp
          go_simp
          exact ⟨.pointer (some ⟨o, 0, none⟩), rfl, (by first | exact HC.out | exact fun _ => HC.out), (fun hz => hz), rfl⟩
        · clear hR
          refine if_yes (by kernel_rfl) ?_
          unfold Oper.wp
          go_simp
          exact ⟨.int .i64 (i : Int), rfl, (by first | exact HC.out | exact fun _ => HC.out), (fun hz => hz), rfl⟩
        · have h23 : u 23 = .pointer (some ⟨o, 0, none⟩) := hR ⟨5, .data⟩ (by simp) rfl
          have h24 : u 24 = .int .i64 (i : Int) := hR ⟨6, .data⟩ (by simp) rfl
          clear hR
          simp only [h23, h24]
          clear h23 h24
          refine if_yes (by kernel_rfl) ?_
          unfold Oper.wp
          go_simp
          refine (HTD.out _ HC.out).mono ?_
          rintro e w2 ⟨rfl, hb2⟩
          exact ⟨.agg (lv tn), rfl, (by first | exact HC.out.call hb2 | exact fun _ => HC.out.call hb2), (fun hz => hz.call hb2), rfl⟩
        · clear hR
          refine if_yes (by kernel_rfl) ?_
          unfold Oper.wp
          go_simp
          exact ⟨.pointer (some ⟨bh, 2, none⟩), rfl, (by first | exact HC.out | exact fun _ => HC.out), (fun hz => hz), rfl⟩
        · have h26 : u 26 = .pointer (some ⟨bh, 2, none⟩) := hR ⟨8, .data⟩ (by simp) rfl
          have hc : w'.cell? ⟨bh, 2, none⟩ = some (.int .i64 a) := HC.out.how.cell 2
          clear hR
          simp only [h26]
          clear h26
          refine if_yes (by kernel_rfl) ?_
          unfold Oper.wp
          go_simp
          exact ⟨.int .i64 a, rfl, (by first | exact HC.out | exact fun _ => HC.out), (fun hz => hz), rfl⟩
        · clear hR
          refine if_yes (by kernel_rfl) ?_
          unfold Oper.wp
          go_simp
          exact ⟨.pointer (some ⟨bh, 3, none⟩), rfl, (by first | exact HC.out | exact fun _ => HC.out), (fun hz => hz), rfl⟩
        · have h28 : u 28 = .pointer (some ⟨bh, 3, none⟩) := hR ⟨10, .data⟩ (by simp) rfl
          have hc : w'.cell? ⟨bh, 3, none⟩ = some (.int .i64 b) := HC.out.how.cell 3
          clear hR
          simp only [h28]
          clear h28
          refine if_yes (by kernel_rfl) ?_
          unfold Oper.wp
          go_simp
          exact ⟨.int .i64 b, rfl, (by first | exact HC.out | exact fun _ => HC.out), (fun hz => hz), rfl⟩
        · have h25 : u 25 = .agg (lv tn) := hR ⟨7, .data⟩ (by simp) rfl
          have h27 : u 27 = .int .i64 a := hR ⟨9, .data⟩ (by simp) rfl
          have h29 : u 29 = .int .i64 b := hR ⟨11, .data⟩ (by simp) rfl
          clear hR
          simp only [h25, h27, h29]
          clear h25 h27 h29
          refine if_yes (by kernel_rfl) ?_
          unfold Oper.wp
          go_simp
          refine (HHB.out _).mono ?_
          rintro e w2 ⟨rfl, hb2⟩
          exact ⟨.agg (lv hh), rfl, (by first | exact HC.out.call hb2 | exact fun _ => HC.out.call hb2), (fun hz => hz.call hb2), rfl⟩
        · have h21 : u 21 = .slice (some ⟨g, 0, none⟩) L cap := hR ⟨3, .data⟩ (by simp) rfl
          have h22 : u 22 = .int .i64 (i : Int) := hR ⟨4, .data⟩ (by simp) rfl
          have hlt2 := HLT.out
          clear hR
          simp only [h21, h22]
          clear h21 h22
          refine if_yes (by kernel_rfl) ?_
          unfold Oper.wp
          go_simp
          exact ⟨.pointer (some ⟨g, i * 4, none⟩), rfl, (by first | exact HC.out | exact fun _ => HC.out), (fun hz => hz), rfl⟩
        · have h31 : u 31 = .pointer (some ⟨g, i * 4, none⟩) := hR ⟨13, .data⟩ (by simp) rfl
          have h30 : u 30 = .agg (lv hh) := hR ⟨12, .data⟩ (by simp) rfl
          clear hR
          simp only [h31, h30]
          clear h31 h30
          refine if_yes (by kernel_rfl) ?_
          have hz := HC.out.store HNE.out HLI.out hh
          exact wp_store_mid 57 (.tmp 31) (.tmp 30) rfl g (i * 4) (lv hh) rfl rfl (HC.out.rows i HLI.out).2 size_line (lv_one _) ⟨undef, rfl, fun h => absurd rfl h, (fun _ => hz), fun _ => hz⟩
      · intro a' w' hB hR
        have hz := (hR 14 (by decide)) rfl
        have HZ := Lib.hid hz
        clear hR hz
        obtain ⟨u, rfl⟩ := hB
        rw [← HA.out]
        clear HA HBT
        go_wp2_with fail
        go_roundw
        case rel =>
          have hz := HZ.out
          have hn := HN.out
          have hru := HRU.out.next hlt
          rw [HTN.out, HHH.out] at hru
          have hbx := hz.2.2.cell HC.out.box (fun h => by have h : bc = o ∨ bc = g := h; omega)
          have hhw := HC.out.how.only hz.2.2 (fun h => by have h : bh = o ∨ bh = g := h; omega)
          have hlo := HC.out.low.trans hz.2.2 (fun _ hk => Or.inl hk)
          exact ⟨_, _, _, _, _, _, _, _, _, _, _, _, _, _, _, _, _, _, _, ⟨i + 1, by omega, by go_num, l2.set i hh, hru, by rw [HCS.out]; exact ⟨hz.1, hz.2.1, hbx, hhw, hlo⟩⟩, rfl⟩
        case measure => simp [intOf]; omega
    · have hiL : i = L := by omega
      subst hiL
      have cb := hC.box
      have c2 : wr.cell? ⟨o, 2, none⟩ = some (.int .i64 m) := hC.cell.cell 2
      have f2 := hC.cell.free 2
      clear hru hC
      have hm := HM.out
      by_cases h0 : m = 0
      · subst h0
        go_wp2_with fail
        refine bodyPost_end (results_none rfl _ _ _) rfl ⟨rfl, ?_, ⟨l2, HRU.out, HC.out.rows.set_cell HNE.out 2 _⟩, HC.out.low.setCell ⟨o, 2, none⟩ _ (Or.inl rfl)⟩
        rw [← HM'.out]
        exact HC.out.cell.set 2 _ rfl
      · have hm0 : (m == 0) = false := by simpa using h0
        go_wp2_with fail
        refine bodyPost_end (results_none rfl _ _ _) rfl ⟨rfl, ?_, ⟨l2, HRU.out, HC.out.rows⟩, HC.out.low⟩
        rw [← HM'.out, if_neg h0]
        exact HC.out.cell

set_option maxHeartbeats 1000000 in
theorem ce_erase1_yes (o L g cap : Nat) (bl : ByteArray) (m : Int) (d sl tl : Nat) (bad torn : Bool) (ls : List Ln) (bc bh : Nat) (w : World)
    (hk : Blk w o (cc L g cap bl m d sl tl bad torn) 50) (hl : LnsAt w g ls) (hlen : ls.length = L) (hne : o ≠ g) (h64 : L ≤ 64) (hsl : sl < 1000000000) (htl : tl < 1000000000)
    (hbc : w.cell? ⟨bc, 0, none⟩ = some (.pointer (some ⟨o, 0, none⟩))) (n1 : bc ≠ o) :
    Calls Tryd.prog 33 #[.bool true, .pointer (some ⟨bc, 0, none⟩), .pointer (some ⟨bh, 0, none⟩)] w fun e w' => e = .returned (.tuple #[]) ∧
      Blk w' o (cc L g cap bl 0 0 (if m = 2 then sl else sl + 1) (if m = 2 then tl + 1 else tl) bad false) 50 ∧ LnsAt w' g (List.replicate L (blankL bl)) ∧ Only (FF o g) w w' := by
  obtain ⟨sl', hsl'⟩ : ∃ sl', (if m = 2 then sl else sl + 1) = sl' := ⟨_, rfl⟩
  obtain ⟨tl', htl'⟩ : ∃ tl', (if m = 2 then tl + 1 else tl) = tl' := ⟨_, rfl⟩
  have hcn := ce_count o L g cap bl m d sl tl bad torn w hk hsl htl
  rw [hsl', htl'] at hcn
  rw [hsl', htl']
  have HCN := Lib.hid hcn
  have HL := Lib.hid hl
  have HLEN := Lib.hid hlen
  have HNE := Lib.hid hne
  have HBC := Lib.hid hbc
  have HN := Lib.hid n1
  clear hsl' htl' hcn hl hlen hne n1 hk hsl htl
  go_enter Tryd.func33, Tryd.ntmps33
  go_wp2_with fail
  refine HCN.out.mono ?_
  rintro e w2 ⟨rfl, hk2, ho2⟩
  have hr2 := HL.out.only ho2 (fun h => HNE.out h.symm)
  have cb := ho2.cell HBC.out (fun h => HN.out h)
  have ho3 : Only (FF o g) w w2 := ho2.weak (fun _ h => Or.inl h)
  have HEM := Lib.hid (ce_empty o L g cap bl m d sl' tl' bad torn ls w2 hk2 hr2 HLEN.out HNE.out h64)
  have HO3 := Lib.hid ho3
  clear hk2 hr2 ho2 ho3 HL HCN hbc
  go_wp2_with fail
  refine HEM.out.mono ?_
  rintro e w3 ⟨rfl, h1, h2, h3⟩
  have H1 := Lib.hid h1
  have H2 := Lib.hid h2
  have H3 : Hid (Only (FF o g) w w3) := HO3.out.trans h3 (fun _ hk => Or.inl hk)
  clear h1 h2 h3 HEM
  go_wp2_with fail
  exact bodyPost_ret (results_none rfl _ _ _) rfl ⟨rfl, H1.out, H2.out, H3.out⟩

end Go.Proofs.YtjmoecfgpfdncaaDoor

/- Package cell, walked: Erase whole. -/
namespace Go.Proofs.YtjmoecfgpfdncaaDoor
set_option maxRecDepth 100000
open Go.RowKit

theorem endW_cell {w : World} {o L g cap : Nat} {bl : ByteArray} {m : Int} {d sl tl : Nat} {b t : Bool} (h : Blk w o (cc L g cap bl m d sl tl b t) 50) (k : Int) :
    Blk (endW o k w) o (cc L g cap bl m d sl tl (if k = 2 then true else b) (if k = 1 then true else t)) 50 := by
  unfold endW
  by_cases h1 : k = 1
  · subst h1
    rw [if_pos rfl, if_neg (by decide), if_pos rfl]
    exact h.set 7 _ rfl
  · rw [if_neg h1, if_neg h1]
    by_cases h2 : k = 2
    · subst h2
      rw [if_pos rfl, if_pos rfl]
      exact h.set 6 _ rfl
    · rw [if_neg h2, if_neg h2]
      exact h
theorem endW_rows {w : World} {o g : Nat} {ls : List Ln} (h : LnsAt w g ls) (hne : o ≠ g) (k : Int) : LnsAt (endW o k w) g ls := by
  unfold endW
  split
  · exact h.set_cell hne _ _
  · split
    · exact h.set_cell hne _ _
    · exact h
theorem endW_only {w w' : World} {o g : Nat} (h : Only (FF o g) w w') (k : Int) : Only (FF o g) w (endW o k w') := by
  unfold endW
  split
  · exact h.setCell ⟨o, 7, none⟩ _ (Or.inl rfl)
  · split
    · exact h.setCell ⟨o, 6, none⟩ _ (Or.inl rfl)
    · exact h
theorem endSt_bits (t : St) (k : Int) : (endSt t k).bad = (if k = 2 then true else t.bad) ∧ (endSt t k).torn = (if k = 1 then true else t.torn) ∧ (endSt t k).slc = t.slc ∧ (endSt t k).tlc = t.tlc := by
  unfold endSt
  by_cases h1 : k = 1
  · subst h1; rw [if_pos rfl, if_neg (by decide), if_pos rfl]; exact ⟨rfl, rfl, rfl, rfl⟩
  · rw [if_neg h1, if_neg h1]
    by_cases h2 : k = 2
    · subst h2; rw [if_pos rfl, if_pos rfl]; exact ⟨rfl, rfl, rfl, rfl⟩
    · rw [if_neg h2, if_neg h2]; exact ⟨rfl, rfl, rfl, rfl⟩
theorem more_counts (s : St) : (moreSt s).slc = (if s.mode = 2 then s.slc else s.slc + 1) ∧ (moreSt s).tlc = (if s.mode = 2 then s.tlc + 1 else s.tlc) ∧ (moreSt s).bad = s.bad ∧ (moreSt s).torn = s.torn := by
  unfold moreSt
  split
  · exact ⟨rfl, rfl, rfl, rfl⟩
  · exact ⟨rfl, rfl, rfl, rfl⟩
theorem ruin_flags (s t : St) (a b k : Int) : ∀ n, (ruinTo s t a b k n).bad = t.bad ∧ (ruinTo s t a b k n).torn = t.torn ∧ (ruinTo s t a b k n).slc = t.slc ∧ (ruinTo s t a b k n).tlc = t.tlc
  | 0 => ⟨rfl, rfl, rfl, rfl⟩
  | n + 1 => ruin_flags s t a b k n
theorem slc_flags (s : St) : (slcSt s).bad = s.bad ∧ (slcSt s).torn = s.torn ∧ (slcSt s).slc = s.slc ∧ (slcSt s).tlc = s.tlc := by
  unfold slcSt
  split <;> exact ⟨rfl, rfl, rfl, rfl⟩
/-- a cell whose erasing was cut, or failed -/
theorem CodeAt.ruined {w w1 : World} {o g cap : Nat} {s : St} {ls l2 : List Ln} {k a b : Int} (hc : CodeAt w o g cap s ls) (hw : WfSt s) (hb : s.bad = false) (hk : hurtsB k = true)
    (h1 : Blk w1 o (cc s.L g cap (blankS s.Y) (if s.mode = 0 then 1 else s.mode) s.done (if s.mode = 2 then s.slc else s.slc + 1) (if s.mode = 2 then s.tlc + 1 else s.tlc) s.bad s.torn) 50)
    (h2 : Ruined s.mode s.L s.done ls a b s.L l2) (h3 : LnsAt w1 g l2) : CodeAt (endW o k w1) o g cap (eraseSt s k a b) l2 := by
  have ha : AbsC (eraseSt s k a b) l2 := hc.abs.ruin hw hb k a b hk h2.1 (fun i hi => by rw [h2.2.1 i hi, told_is])
  have he : eraseSt s k a b = endSt (slcSt (ruinTo (moreSt s) (moreSt s) a b k (3 * s.L))) k := by
    unfold eraseSt
    rw [if_neg (by rw [hb]; simp), if_pos hk]
  have m1 := more_all s
  have m2 := more_counts s
  have r1 := ruin_all (moreSt s) (moreSt s) a b k (3 * s.L)
  have r2 := ruin_flags (moreSt s) (moreSt s) a b k (3 * s.L)
  obtain ⟨R, hR⟩ : ∃ R, ruinTo (moreSt s) (moreSt s) a b k (3 * s.L) = R := ⟨_, rfl⟩
  rw [hR] at he r1 r2
  have s1 := slc_all R
  have s2 := slc_flags R
  have e1 := end_same (slcSt R) k
  have e2 := endSt_bits (slcSt R) k
  rw [he] at ha ⊢
  refine ⟨hc.ne, ?_, ?_, endW_rows h3 hc.ne k, ha⟩
  · rw [e1.1, s1.1, r1.1, m1.1]; exact hc.pos
  · rw [e1.1, e1.2.1, e1.2.2.1, e1.2.2.2, e2.1, e2.2.1, e2.2.2.1, e2.2.2.2, s1.1, s1.2.1, s1.2.2.2.2.1, s1.2.2.2.2.2, s2.1, s2.2.1, s2.2.2.1, s2.2.2.2, r1.1, r1.2.1, r1.2.2.1, r1.2.2.2, r2.1, r2.2.1, r2.2.2.1, r2.2.2.2, m1.1, m1.2.1, m1.2.2.2.2.1, m1.2.2.2.2.2, m2.1, m2.2.1, m2.2.2.1, m2.2.2.2]
    exact endW_cell h1 k
/-- .. and one that was erased -/
theorem CodeAt.cleaned {w w1 : World} {o g cap : Nat} {s : St} {ls : List Ln} {k a b : Int} (hc : CodeAt w o g cap s ls) (hw : WfSt s) (hb : s.bad = false) (hk : hurtsB k = false) (hs1 : s.slc < 1000000000) (hs2 : s.tlc < 1000000000)
    (h1 : Blk w1 o (cc s.L g cap (blankS s.Y) 0 0 (if s.mode = 2 then s.slc else s.slc + 1) (if s.mode = 2 then s.tlc + 1 else s.tlc) s.bad false) 50)
    (h3 : LnsAt w1 g (List.replicate s.L (blankL (blankS s.Y)))) : CodeAt (endW o k w1) o g cap (eraseSt s k a b) (List.replicate s.L (blankL (blankS s.Y))) := by
  have ha : AbsC (eraseSt s k a b) (List.replicate s.L (blankL (blankS s.Y))) := AbsC.clean hw hb k a b hk hs1 hs2
  have he : eraseSt s k a b = { newSt s.L s.Y with slc := (moreSt s).slc, tlc := (moreSt s).tlc } := by
    unfold eraseSt
    rw [if_neg (by rw [hb]; simp), if_neg (by rw [hk]; simp)]
  have m2 := more_counts s
  have k1 : ¬ k = 1 := fun h => by subst h; cases hk
  have k2 : ¬ k = 2 := fun h => by subst h; cases hk
  have hend : endW o k w1 = w1 := by unfold endW; rw [if_neg k1, if_neg k2]
  rw [hend]
  rw [he] at ha ⊢
  refine ⟨hc.ne, hc.pos, ?_, h3, ha⟩
  show Blk w1 o (cc s.L g cap (blankS s.Y) 0 0 (moreSt s).slc (moreSt s).tlc false false) 50
  rw [m2.1, m2.2.1]
  rw [hb] at h1
  exact h1

set_option maxHeartbeats 1000000 in
theorem ce_erase0 (o g cap : Nat) (s : St) (ls : List Ln) (x k a b : Int) (w : World) (hw : WfSt s) (hc : CodeAt w o g cap s ls) (hs1 : s.slc < 1000000000) (hs2 : s.tlc < 1000000000) :
    Calls Tryd.prog 14 #[.pointer (some ⟨o, 0, none⟩), .agg (fv x k a b)] w (ActR o g cap (eraseSt s k a b) (.int .i64 (eraseC s k)) w) := by
  obtain ⟨w2, hw2⟩ : ∃ w2, (w.alloc (.cells #[.pointer (some ⟨o, 0, none⟩)] 25)).alloc (.cells (fv x k a b) 23) = w2 := ⟨_, rfl⟩
  have hb2 : Below w.heap.size w w2 := by rw [← hw2]; exact ((Below.refl _ _).alloc (Nat.le_refl _) _).alloc (by simp) _
  have hs2' : w2.heap.size = w.heap.size + 2 := by rw [← hw2]; simp only [World.size_alloc]
  have k0 : Blk w2 w.heap.size #[.pointer (some ⟨o, 0, none⟩)] 25 := by rw [← hw2]; exact (Blk.new w _ _).alloc _
  have k1 : Blk w2 (w.heap.size + 1) (fv x k a b) 23 := by
    rw [← hw2]
    have h := Blk.new (w.alloc (.cells #[.pointer (some ⟨o, 0, none⟩)] 25)) (fv x k a b) 23
    rwa [World.size_alloc] at h
  have hc2 := hc.after hb2
  have hol := hc.lt
  by_cases hb : s.bad = true
  · have he : eraseSt s k a b = s ∧ eraseC s k = 80 := by unfold eraseSt eraseC; rw [if_pos hb, if_pos hb]; exact ⟨rfl, rfl⟩
    rw [he.1, he.2]
    have c6 : w2.cell? ⟨o, 6, none⟩ = some (.bool true) := by rw [hc2.cell.cell 6, ← hb]; rfl
    have HC2 := Lib.hid hc2
    have HB2 := Lib.hid hb2
    subst hw2
    clear hb2 hs2' k0 k1 hc2 hol hb he hw hc
    go_enter Tryd.func14, Tryd.ntmps14
    go_wp2_with fail
    go_ret
    exact ⟨rfl, ⟨ls, HC2.out⟩, Only.of_below HB2.out⟩
  · have hbf : s.bad = false := by simpa using hb
    have he : eraseC s k = endC k := by unfold eraseC; rw [if_neg hb]
    rw [he]
    have c6 : w2.cell? ⟨o, 6, none⟩ = some (.bool false) := by rw [hc2.cell.cell 6, ← hbf]; rfl
    obtain ⟨w4, hw4⟩ : ∃ w4, (w2.alloc (.cells #[.pointer (some ⟨o, 0, none⟩)] 25)).alloc (.cells (fv x k a b) 23) = w4 := ⟨_, rfl⟩
    have hb4 : Below w2.heap.size w2 w4 := by rw [← hw4]; exact ((Below.refl _ _).alloc (Nat.le_refl _) _).alloc (by simp) _
    have k2 : Blk w4 w2.heap.size #[.pointer (some ⟨o, 0, none⟩)] 25 := by rw [← hw4]; exact (Blk.new w2 _ _).alloc _
    have k3 : Blk w4 (w2.heap.size + 1) (fv x k a b) 23 := by
      rw [← hw4]
      have h := Blk.new (w2.alloc (.cells #[.pointer (some ⟨o, 0, none⟩)] 25)) (fv x k a b) 23
      rwa [World.size_alloc] at h
    have hc4 := hc2.after hb4
    have hbb := hb2.trans (hb4.mono hb2.size)
    -- what the closure leaves
    obtain ⟨R, hR⟩ : ∃ R : World → Prop, R = fun w' => (∃ l3, CodeAt (endW o k w') o g cap (eraseSt s k a b) l3) ∧ (∃ cs : Array Value, cs.size = 8 ∧ Blk w' o cs 50) ∧ Only (FF o g) w4 w' := ⟨_, rfl⟩
    have hdo : Calls Tryd.prog 33 (#[.bool (!hurtsB k)] ++ #[.pointer (some ⟨w.heap.size, 0, none⟩), .pointer (some ⟨w.heap.size + 1, 0, none⟩)]) w4 fun e w' => e = .returned (.tuple #[]) ∧ R w' := by
      rw [hR]
      cases hk : hurtsB k with
      | true =>
        refine (ce_erase1_no o s.L g cap (blankS s.Y) s.mode s.done s.slc s.tlc s.bad s.torn ls w.heap.size (w.heap.size + 1) x k a b w4 hc4.cell hc4.rows hc4.abs.len hc4.ne hw.l1 hw.l64 hw.done hw.mode hs1 hs2 hc4.abs.size ((k0.after hb4).cell 0) (k1.after hb4) ⟨by omega, by omega⟩ ⟨by omega, by omega⟩).mono ?_
        rintro e w' ⟨rfl, h1, ⟨l2, h2, h3⟩, h4⟩
        exact ⟨rfl, ⟨l2, hc4.ruined hw hbf hk h1 h2 h3⟩, ⟨_, rfl, h1⟩, h4⟩
      | false =>
        refine (ce_erase1_yes o s.L g cap (blankS s.Y) s.mode s.done s.slc s.tlc s.bad s.torn ls w.heap.size (w.heap.size + 1) w4 hc4.cell hc4.rows hc4.abs.len hc4.ne hw.l64 hs1 hs2 ((k0.after hb4).cell 0) (by omega)).mono ?_
        rintro e w' ⟨rfl, h1, h3, h4⟩
        exact ⟨rfl, ⟨_, hc4.cleaned hw hbf hk hs1 hs2 h1 h3⟩, ⟨_, rfl, h1⟩, h4⟩
    have hRR : ∀ w', R w' → w'.cell? ⟨w2.heap.size, 0, none⟩ = some (.pointer (some ⟨o, 0, none⟩)) ∧ ∃ cs : Array Value, cs.size = 8 ∧ Blk w' o cs 50 := by
      intro w' h
      rw [hR] at h
      exact ⟨h.2.2.cell (k2.cell 0) (fun hf => by
        have hf2 : w2.heap.size = o ∨ w2.heap.size = g := hf
        omega), h.2.1⟩
    have HTH := Lib.hid (ce_thru_erase (w2.heap.size + 1) w2.heap.size o x k a b w.heap.size (w.heap.size + 1) w4 R k3 hdo hRR)
    have HK1 := Lib.hid k1
    have HW2 := Lib.hid hw2
    have HW4 := Lib.hid hw4
    have HBB := Lib.hid hbb
    have HR := Lib.hid hR
    have c0 : w2.cell? ⟨w.heap.size, 0, none⟩ = some (.pointer (some ⟨o, 0, none⟩)) := k0.cell 0
    have c6' : ((w.alloc (.cells #[.pointer (some ⟨o, 0, none⟩)] 25)).alloc (.cells (fv x k a b) 23)).cell? ⟨o, 6, none⟩ = some (.bool false) := by rw [hw2]; exact c6
    clear hw hc hb2 hs2' k0 k1 hc2 hol hb he hb4 k2 k3 hc4 hbb hdo hRR hR hw2 hw4 hs1 hs2 c6 hbf
    go_enter Tryd.func14, Tryd.ntmps14
    go_wp2_with (first
      | (change wpList _ _ _ _ _ ((w.alloc (.cells #[.pointer (some ⟨o, 0, none⟩)] 25)).alloc (.cells (fv x k a b) 23)); rw [HW2.out]; refine wpList_load_row rfl 23 (.tmp 3) rfl (w.heap.size + 1) rfl 23 (fv x k a b) (0, 0) _ HK1.out Tryd.underlying23 rfl size_fault ?_))
    refine (ce_through o x k a b _).mono ?_
    rintro e w6 ⟨rfl, rfl⟩
    rw [HW4.out]
    go_wp2_with fail
    refine HTH.out.mono ?_
    rintro e w8 ⟨rfl, w9, hr, rfl⟩
    rw [HR.out] at hr
    have HRR := Lib.hid hr
    clear hr HTH
    go_wp2_with fail
    go_ret
    exact ⟨rfl, HRR.out.1, endW_only ((Only.of_below (F := FF o g) HBB.out).trans HRR.out.2.2 (fun _ hk => Or.inl hk)) k⟩

end Go.Proofs.YtjmoecfgpfdncaaDoor

/- Package cell, walked: New, Read, Copy. -/
namespace Go.Proofs.YtjmoecfgpfdncaaDoor
set_option maxRecDepth 100000
open Go.RowKit

/-- the cells of lines -/
def cellsN (ls : List Ln) : List Value := ls.flatMap lnL
theorem cellsN_length : ∀ ls, (cellsN ls).length = ls.length * 4
  | [] => rfl
  | x :: l => by
    have := cellsN_length l
    simp only [cellsN, List.flatMap_cons, List.length_append] at this ⊢
    rw [this, List.length_cons]
    show 4 + l.length * 4 = (l.length + 1) * 4
    omega
theorem cellsN_at : ∀ (ls : List Ln) (i j : Nat), i < ls.length → j < 4 → (cellsN ls)[i * 4 + j]? = (lnL (lnAt ls i))[j]?
  | [], i, j, h, _ => absurd h (Nat.not_lt_zero i)
  | x :: l, 0, j, _, hj => by
    simp only [cellsN, List.flatMap_cons, Nat.zero_mul, Nat.zero_add]
    rw [List.getElem?_append_left (by exact hj)]
    rfl
  | x :: l, i + 1, j, h, hj => by
    have ih := cellsN_at l i j (by simpa using h) hj
    simp only [cellsN, List.flatMap_cons] at ih ⊢
    rw [List.getElem?_append_right (by show 4 ≤ _; omega)]
    have e : (i + 1) * 4 + j - (lnL x).length = i * 4 + j := by show (i + 1) * 4 + j - 4 = _; omega
    rw [e, ih]
    rfl
theorem LnsAt.of_blk {w : World} {g : Nat} {cs : Array Value} {t : TypeId} {ls : List Ln} (h : Blk w g cs t) (hc : cs.toList.take (ls.length * 4) = cellsN ls) : LnsAt w g ls := by
  have key : ∀ i j, i < ls.length → j < 4 → w.cell? ⟨g, i * 4 + j, none⟩ = (lnL (lnAt ls i))[j]? := by
    intro i j hi hj
    rw [h.cell, ← cellsN_at ls i j hi hj, ← hc, List.getElem?_take_of_lt (by omega)]
    simp
  intro i hi
  refine ⟨fun j v hv => ?_, fun j hj => ?_⟩
  · have hj : j < 4 := (List.getElem?_eq_some_iff.1 hv).1
    rw [key i j hi hj]; exact hv
  · refine ⟨?_, h.free _⟩
    rw [key i j hi hj]
    have : j < (lnL (lnAt ls i)).length := hj
    rw [List.getElem?_eq_getElem this]; rfl
theorem lnL_all (ls : List Ln) : ∀ u ∈ cellsN ls, u.oneCell' = true := by
  intro u hu
  unfold cellsN at hu
  rw [List.mem_flatMap] at hu
  obtain ⟨l, _, h⟩ := hu
  exact lnL_one l u h

theorem infoLine : (Tryd.prog.info? 57).map (fun i => (i.zero, i.size, i.bytes)) = some (some (.agg #[.string ByteArray.empty, .string ByteArray.empty, .string ByteArray.empty, .bool false]), 4, 56) := by kernel_rfl
/-- new lines, all of noughts -/
theorem made_lines (w : World) (L : Nat) : LnsAt (w.alloc (.cells (madeCells #[.string ByteArray.empty, .string ByteArray.empty, .string ByteArray.empty, .bool false] (L * 4)) 57)) w.heap.size (List.replicate L l0) := by
  refine LnsAt.of_blk (Blk.new w _ _) ?_
  rw [List.length_replicate]
  refine List.ext_getElem? fun k => ?_
  by_cases hk : k < L * 4
  · rw [List.getElem?_take_of_lt hk]
    have h1 := cellsN_at (List.replicate L l0) (k / 4) (k % 4) (by rw [List.length_replicate]; omega) (by omega)
    rw [show k / 4 * 4 + k % 4 = k by omega] at h1
    rw [h1]
    have h2 : lnAt (List.replicate L l0) (k / 4) = l0 := by
      unfold lnAt
      rw [List.getD_eq_getElem?_getD, List.getElem?_replicate]
      split <;> rfl
    rw [h2, Array.getElem?_toList, Array.getElem?_eq_getElem (by rw [size_madeCells]; exact hk)]
    simp only [madeCells, Array.getElem_map, Array.getElem_range]
    have h4 : k % 4 = 0 ∨ k % 4 = 1 ∨ k % 4 = 2 ∨ k % 4 = 3 := by omega
    show some ((#[Value.string ByteArray.empty, .string ByteArray.empty, .string ByteArray.empty, .bool false] : Array Value)[k % 4]!) = _
    rcases h4 with h4 | h4 | h4 | h4 <;> rw [h4] <;> rfl
  · rw [List.getElem?_eq_none (by rw [List.length_take]; omega), List.getElem?_eq_none (by rw [cellsN_length, List.length_replicate]; omega)]

set_option maxHeartbeats 1000000 in
theorem ce_new0 (l y : Int) (w : World) : Calls Tryd.prog 7 #[.int .i64 l, .int .i64 y] w fun e w' =>
    (NewOk l y → ∃ o g cap ls, e = .returned (.tuple #[.pointer (some ⟨o, 0, none⟩), .int .i64 0]) ∧ CodeAt w' o g cap (newSt l.toNat y.toNat) ls ∧ w.heap.size ≤ o ∧ w.heap.size ≤ g)
    ∧ (¬ NewOk l y → e = .returned (.tuple #[.pointer none, .int .i64 60])) ∧ Below w.heap.size w w' := by
  by_cases hok : NewOk l y
  · obtain ⟨L, rfl⟩ : ∃ L : Nat, l = L := ⟨l.toNat, by unfold NewOk LinesOk at hok; omega⟩
    obtain ⟨Y, rfl⟩ : ∃ Y : Nat, y = Y := ⟨y.toNat, by unfold NewOk at hok; omega⟩
    have h1 := hok.1.1
    have h2 := hok.1.2
    have hy : LenOk Y := by have := hok.2.2; simpa using this
    have hbl : blankT (Y : Int) = blankS Y := by
      unfold blankT
      rw [if_pos hok.2]
      simp
    have hfull := blankS_full hy
    obtain ⟨bl, hb⟩ : ∃ bl, blankS Y = bl := ⟨_, rfl⟩
    have hq : (bl.toList == ([] : List UInt8)) = false := by
      rw [beq_eq_false_iff_ne, ByteArray.toList_eq, ← hb]
      intro h
      exact hfull (ByteArray.ext (Array.toList_inj.1 h))
    have HBL : Hid (∀ w, Calls Tryd.prog 21 #[.int .i64 (Y : Int)] w fun r w' => r = .returned (.string bl) ∧ Below w.heap.size w w') := fun w => by
      have h := fr_blank (Y : Int) w
      rw [hbl, hb] at h
      exact h
    obtain ⟨i0, hi, hz0, hz1, hz2⟩ := info_parts infoLine
    have hmk : ∀ w, Sem.run Tryd.prog (Instr.makeSlice 48 (.int .i64 (L : Int)) (.int .i64 (L : Int))) w = .ok (.slice (some ⟨w.heap.size, 0, none⟩) L L) (w.alloc (.cells (madeCells #[.string ByteArray.empty, .string ByteArray.empty, .string ByteArray.empty, .bool false] (L * 4)) 57)) := fun w => by
      have h := run_make (P := Tryd.prog) w 48 57 i0 _ Tryd.underlying48 hi hz0 .i64 .i64 (L : Int) (L : Int) (by omega) (Int.le_refl _) (by rw [hz2]; omega) (by omega)
      rw [hz1] at h
      simp only [Int.toNat_natCast] at h
      exact h
    clear hi hz0 hz1 hz2
    go_enter Tryd.func7, Tryd.ntmps7
    go_wp2_with fail
    refine (HBL.out _).mono ?_
    rintro e w1 ⟨rfl, hb1⟩
    go_wp2_with fail
    have hkc : Blk ((w1.alloc (.cells (madeCells #[.string ByteArray.empty, .string ByteArray.empty, .string ByteArray.empty, .bool false] (L * 4)) 57)).alloc (.cells #[.slice (some ⟨w1.heap.size, 0, none⟩) L L, .string bl, .int .i64 0, .int .i64 0, .int .i64 0, .int .i64 0, .bool false, .bool false] 50)) (w1.heap.size + 1) (cc L w1.heap.size L bl 0 0 0 0 false false) 50 := by
      have h := Blk.new (w1.alloc (.cells (madeCells #[.string ByteArray.empty, .string ByteArray.empty, .string ByteArray.empty, .bool false] (L * 4)) 57)) (cc L w1.heap.size L bl 0 0 0 0 false false) 50
      rw [World.size_alloc] at h
      exact h
    obtain ⟨w2, hw2⟩ : ∃ w2, (w1.alloc (.cells (madeCells #[.string ByteArray.empty, .string ByteArray.empty, .string ByteArray.empty, .bool false] (L * 4)) 57)).alloc (.cells #[.slice (some ⟨w1.heap.size, 0, none⟩) L L, .string bl, .int .i64 0, .int .i64 0, .int .i64 0, .int .i64 0, .bool false, .bool false] 50) = w2 := ⟨_, rfl⟩
    have hlc : LnsAt w2 w1.heap.size (List.replicate L l0) := by
      rw [← hw2]
      exact (made_lines w1 L).after ((Below.refl _ _).alloc (Nat.le_refl _) _)
    have hb2 : Below w1.heap.size w1 w2 := by rw [← hw2]; exact ((Below.refl _ _).alloc (Nat.le_refl _) _).alloc (by simp) _
    rw [hw2] at hkc ⊢
    refine (ce_empty (w1.heap.size + 1) L w1.heap.size L bl 0 0 0 0 false false (List.replicate L l0) w2 hkc hlc (by simp) (by omega) (by omega)).mono ?_
    rintro e w3 ⟨rfl, e1, e2, e3⟩
    have hbb := hb1.trans (hb2.mono hb1.size)
    have hs1 := hb1.size
    have HB3 : Hid (Below w.heap.size w w3) := hbb.trans (e3.below (hbb.size) (fun k hk => by have hk : k = w1.heap.size + 1 ∨ k = w1.heap.size := hk; omega))
    have HCO : Hid (CodeAt w3 (w1.heap.size + 1) w1.heap.size L (newSt L Y) (List.replicate L (blankL bl))) := by
      have hwf := newSt_ok (l := L) (y := Y) (by omega) (by omega) hy
      refine ⟨by omega, by show 0 < L; omega, ?_, e2, ?_⟩
      · show Blk w3 _ (cc L w1.heap.size L (blankS Y) 0 0 0 0 false false) _
        rw [hb]; exact e1
      · rw [← hb]; exact AbsC.new hwf
    have HSZ : Hid (w.heap.size ≤ w1.heap.size) := hs1
    have HOK := Lib.hid hok
    clear hkc hw2 hlc hb2 e1 e2 e3 hbb hs1 hb1 hok hmk
    go_wp2_with fail
    go_ret2
    have hz := HSZ.out
    exact ⟨fun _ => ⟨_, _, _, _, rfl, by simpa using HCO.out, by omega, by omega⟩, fun h => absurd HOK.out h, HB3.out⟩
  · have HNO := Lib.hid hok
    have hc : l < 1 ∨ (¬ l < 1 ∧ 64 < l) ∨ (¬ l < 1 ∧ ¬ 64 < l ∧ ¬ (0 ≤ y ∧ LenOk y.toNat)) := by
      by_cases h1 : l < 1
      · exact Or.inl h1
      · by_cases h2 : 64 < l
        · exact Or.inr (Or.inl ⟨h1, h2⟩)
        · exact Or.inr (Or.inr ⟨h1, h2, fun h => hok ⟨⟨by omega, by omega⟩, h⟩⟩)
    obtain ⟨bl, hb⟩ : ∃ bl, blankT y = bl := ⟨_, rfl⟩
    have HBL : Hid (∀ w, Calls Tryd.prog 21 #[.int .i64 y] w fun r w' => r = .returned (.string bl) ∧ Below w.heap.size w w') := fun w => by
      have h := fr_blank y w
      rw [hb] at h
      exact h
    clear hok
    rcases hc with hc | ⟨hc, hc2⟩ | ⟨hc, hc2, hc3⟩
    · clear hb
      go_enter Tryd.func7, Tryd.ntmps7
      go_wp2_with fail
      refine (HBL.out _).mono ?_
      rintro e w1 ⟨rfl, hb1⟩
      have HB1 := Lib.hid hb1
      clear hb1
      go_wp2_with fail
      go_ret2
      exact ⟨fun h => absurd h HNO.out, fun _ => rfl, HB1.out⟩
    · clear hb
      go_enter Tryd.func7, Tryd.ntmps7
      go_wp2_with fail
      refine (HBL.out _).mono ?_
      rintro e w1 ⟨rfl, hb1⟩
      have HB1 := Lib.hid hb1
      clear hb1
      go_wp2_with fail
      go_ret2
      exact ⟨fun h => absurd h HNO.out, fun _ => rfl, HB1.out⟩
    · have hbe : bl = ByteArray.empty := by rw [← hb]; unfold blankT; rw [if_neg hc3]
      subst hbe
      clear hb hc3
      go_enter Tryd.func7, Tryd.ntmps7
      go_wp2_with fail
      refine (HBL.out _).mono ?_
      rintro e w1 ⟨rfl, hb1⟩
      have HB1 := Lib.hid hb1
      clear hb1
      go_wp2_with fail
      go_ret2
      exact ⟨fun h => absurd h HNO.out, fun _ => rfl, HB1.out⟩

end Go.Proofs.YtjmoecfgpfdncaaDoor

/- Package cell, walked: Read. -/
namespace Go.Proofs.YtjmoecfgpfdncaaDoor
set_option maxRecDepth 100000
open Go.RowKit

theorem field_pages (p q r : ByteArray) (h : Bool) (w : World) : Sem.run Tryd.prog (Instr.field 57 (.agg #[.string p, .string q, .string r, .bool h]) 0) w = .ok (.agg #[.string p, .string q, .string r]) w := by
  have hu : Tryd.prog.underlying 43 = some (.array 3 9) := by kernel_rfl
  obtain ⟨i, hi, hzz⟩ := Option.map_eq_some_iff.1 size_three
  simp [Instr.field, run_underlying Tryd.underlying57, asAgg, part, isAgg, run_underlying hu, sizeOf, typeInfo, hi, hzz, go_sem]
set_option maxHeartbeats 1000000 in
theorem ce_read_yes (o g cap : Nat) (s : St) (ls : List Ln) (line part : Int) (w : World) (hw : WfSt s) (hc : CodeAt w o g cap s ls) (hok : ReadOk s line part) :
    Calls Tryd.prog 12 #[.pointer (some ⟨o, 0, none⟩), .int .i64 line, .int .i64 part] w (ReadP s line part w) := by
  have hr := hok
  obtain ⟨i, rfl⟩ : ∃ i : Nat, line = i := ⟨line.toNat, by unfold ReadOk at hok; omega⟩
  obtain ⟨t, rfl⟩ : ∃ t : Nat, part = t := ⟨part.toNat, by unfold ReadOk at hok; omega⟩
  have hrd := read_yes hr
  obtain ⟨k1, k2, k3, k4, k5⟩ := hok
  have hi : i < s.L := by omega
  have ht : t < 3 := by omega
  have h1 := hc.abs.read1 i t hi ht (by
    by_cases h0 : t = 0
    · exact Or.inr h0
    · exact Or.inl fun h => k5 ⟨h, by omega⟩)
  unfold ReadP
  rw [hrd.1, hrd.2, ← h1.1]
  have htd := ce_told o s.L g cap (blankS s.Y) s.mode s.done s.slc s.tlc s.bad s.torn ls i w hc.cell hc.rows hc.abs.len hw.l1 hw.l64 hw.done hi (hc.abs.size i) hw.mode
  rw [told_is] at htd
  obtain ⟨⟨p, q, r, h⟩, hln⟩ : ∃ ln, lnTold s ls i = ln := ⟨_, rfl⟩
  rw [hln] at htd ⊢
  have hpt : (Ln.mk p q r h).pt t = pgN p q r t := by
    match t, ht with
    | 0, _ => rfl
    | 1, _ => rfl
    | 2, _ => rfl
  rw [hpt]
  have hix := fun w => index_three p q r t ht w
  have hfd := fun w => field_pages p q r h w
  have hmd : s.mode = 1 → (t : Int) = 0 := fun h => by
    have h2 : ¬ (t : Int) ≠ 0 := fun h3 => k5 ⟨h, h3⟩
    omega
  have c0 : w.cell? ⟨o, 0, none⟩ = some (.slice (some ⟨g, 0, none⟩) s.L cap) := hc.cell.cell 0
  have c2 : w.cell? ⟨o, 2, none⟩ = some (.int .i64 s.mode) := hc.cell.cell 2
  have HTD := Lib.hid htd
  have HL := hw.l64
  have HMO := Lib.hid hw.mode
  have HMD := Lib.hid hmd
  obtain ⟨m, hm⟩ : ∃ m, s.mode = m := ⟨_, rfl⟩
  rw [hm] at c2
  have HM := Lib.hid hm
  clear hr hrd h1 htd hln hpt hc hw k5 hmd hm
  by_cases hm1 : m = 1
  · have ht0 := HMD.out (HM.out.trans hm1)
    obtain rfl : t = 0 := by omega
    have hix : ∀ w, Sem.run Tryd.prog (Instr.index 43 (.agg #[.string p, .string q, .string r]) (.int .i64 0)) w = .ok (.string (pgN p q r 0)) w := hix
    subst hm1
    clear ht0 HMD
    go_enter Tryd.func12, Tryd.ntmps12
    go_wp2_with fail
    refine HTD.out.mono ?_
    rintro e w1 ⟨rfl, hb1⟩
    have HB1 := Lib.hid hb1
    clear hb1 HTD
    unfold lv
    go_wp2_with fail
    go_ret2
    exact ⟨rfl, HB1.out⟩
  · have hm1b : (m == 1) = false := by simpa using hm1
    go_enter Tryd.func12, Tryd.ntmps12
    go_wp2_with fail
    refine HTD.out.mono ?_
    rintro e w1 ⟨rfl, hb1⟩
    have HB1 := Lib.hid hb1
    clear hb1 HTD
    unfold lv
    go_wp2_with fail
    go_ret2
    exact ⟨rfl, HB1.out⟩

set_option maxHeartbeats 1000000 in
theorem ce_read_no (o g cap : Nat) (s : St) (ls : List Ln) (line part : Int) (w : World) (hw : WfSt s) (hc : CodeAt w o g cap s ls) (hno : ¬ ReadOk s line part) :
    Calls Tryd.prog 12 #[.pointer (some ⟨o, 0, none⟩), .int .i64 line, .int .i64 part] w (ReadP s line part w) := by
  have hrd : readT s line part = ByteArray.empty ∧ readC s line part = 80 := by unfold readT readC; rw [if_neg hno, if_neg hno]; exact ⟨rfl, rfl⟩
  unfold ReadP
  rw [hrd.1, hrd.2]
  have c0 : w.cell? ⟨o, 0, none⟩ = some (.slice (some ⟨g, 0, none⟩) s.L cap) := hc.cell.cell 0
  have c2 : w.cell? ⟨o, 2, none⟩ = some (.int .i64 s.mode) := hc.cell.cell 2
  have hL := hw.l64
  obtain ⟨m, hm⟩ : ∃ m, s.mode = m := ⟨_, rfl⟩
  obtain ⟨L, hLL⟩ : ∃ L, s.L = L := ⟨_, rfl⟩
  have hcs : line < 0 ∨ (0 ≤ line ∧ (L : Int) ≤ line) ∨ (0 ≤ line ∧ line < (L : Int) ∧ part < 0) ∨ (0 ≤ line ∧ line < (L : Int) ∧ 3 ≤ part) ∨ (0 ≤ line ∧ line < (L : Int) ∧ 0 ≤ part ∧ part < 3 ∧ m = 1 ∧ part ≠ 0) := by
    unfold ReadOk at hno
    rw [hm, hLL] at hno
    by_cases h1 : line < 0
    · exact Or.inl h1
    · by_cases h2 : (L : Int) ≤ line
      · exact Or.inr (Or.inl ⟨by omega, h2⟩)
      · by_cases h3 : part < 0
        · exact Or.inr (Or.inr (Or.inl ⟨by omega, by omega, h3⟩))
        · by_cases h4 : 3 ≤ part
          · exact Or.inr (Or.inr (Or.inr (Or.inl ⟨by omega, by omega, h4⟩)))
          · refine Or.inr (Or.inr (Or.inr (Or.inr ⟨by omega, by omega, by omega, by omega, ?_⟩)))
            by_cases h5 : m = 1 ∧ part ≠ 0
            · exact h5
            · exact absurd ⟨by omega, by omega, by omega, by omega, h5⟩ hno
  rw [hm] at c2
  rw [hLL] at c0 hL
  clear hrd hno hc hw hm hLL
  rcases hcs with h1 | ⟨h1, h2⟩ | ⟨h1, h2, h3⟩ | ⟨h1, h2, h3⟩ | ⟨h1, h2, h3, h4, h5, h6⟩
  · go_enter Tryd.func12, Tryd.ntmps12
    go_wp2_with fail
    go_ret2
    exact ⟨rfl, Below.refl _ _⟩
  · go_enter Tryd.func12, Tryd.ntmps12
    go_wp2_with fail
    go_ret2
    exact ⟨rfl, Below.refl _ _⟩
  · go_enter Tryd.func12, Tryd.ntmps12
    go_wp2_with fail
    go_ret2
    exact ⟨rfl, Below.refl _ _⟩
  · go_enter Tryd.func12, Tryd.ntmps12
    go_wp2_with fail
    go_ret2
    exact ⟨rfl, Below.refl _ _⟩
  · subst h5
    have h6b : (part != 0) = true := by simpa using h6
    go_enter Tryd.func12, Tryd.ntmps12
    go_wp2_with fail
    go_ret2
    exact ⟨rfl, Below.refl _ _⟩

end Go.Proofs.YtjmoecfgpfdncaaDoor

/- The code's cell, by contract: all that the laws of layer 8 ask of it. -/
namespace Go.Proofs.YtjmoecfgpfdncaaDoor
set_option maxRecDepth 100000
open Go.RowKit

/-- block o holds the code's cell, which is s; its blocks are those of F -/
def CellAt (w : World) (o : Nat) (F : Nat → Prop) (s : St) : Prop := ∃ g cap ls, F = FF o g ∧ CodeAt w o g cap s ls
theorem CellAt.lt {w : World} {o : Nat} {F : Nat → Prop} {s : St} (h : CellAt w o F s) : ∀ k, F k → k < w.heap.size := by
  obtain ⟨g, cap, ls, rfl, hc⟩ := h
  intro k hk
  have hl := hc.lt
  rcases hk with rfl | rfl
  · exact hl.1
  · exact hl.2
theorem CellAt.keep {w w' : World} {o : Nat} {F : Nat → Prop} {s : St} (h : CellAt w o F s) (hk : ∀ k, F k → w'.heap[k]? = w.heap[k]?) : CellAt w' o F s := by
  obtain ⟨g, cap, ls, rfl, hc⟩ := h
  refine ⟨g, cap, ls, rfl, hc.ne, hc.pos, ?_, hc.rows.keep (hk g (Or.inr rfl)), hc.abs⟩
  have h1 := hc.cell
  unfold Blk at *
  rw [hk o (Or.inl rfl)]; exact h1
/-- what a call leaves that changes a cell -/
def ActT (o : Nat) (F : Nat → Prop) (s' : St) (v : Value) (w : World) (e : Ending) (w' : World) : Prop := e = .returned v ∧ (∃ F', CellAt w' o F' s' ∧ Grows F F' w) ∧ Only F w w'
theorem ActR.act {o g cap : Nat} {s' : St} {v : Value} {w : World} {e : Ending} {w' : World} (h : ActR o g cap s' v w e w') : ActT o (FF o g) s' v w e w' := by
  obtain ⟨h1, ⟨ls, h2⟩, h3⟩ := h
  exact ⟨h1, ⟨FF o g, ⟨g, cap, ls, rfl, h2⟩, fun k hk => Or.inl hk⟩, h3⟩
theorem ce_new (l y : Int) (w : World) : Calls Tryd.prog 7 #[.int .i64 l, .int .i64 y] w fun e w' =>
    (NewOk l y → ∃ o F, e = .returned (.tuple #[.pointer (some ⟨o, 0, none⟩), .int .i64 0]) ∧ CellAt w' o F (newSt l.toNat y.toNat) ∧ (∀ k, F k → w.heap.size ≤ k))
    ∧ (¬ NewOk l y → e = .returned (.tuple #[.pointer none, .int .i64 60])) ∧ Below w.heap.size w w' := by
  refine (ce_new0 l y w).mono ?_
  rintro e w' ⟨h1, h2, h3⟩
  refine ⟨fun h => ?_, h2, h3⟩
  obtain ⟨o, g, cap, ls, rfl, hc, ho, hg⟩ := h1 h
  refine ⟨o, FF o g, rfl, ⟨g, cap, ls, rfl, hc⟩, fun k hk => ?_⟩
  rcases hk with rfl | rfl
  · exact ho
  · exact hg
theorem ce_prog (o : Nat) (F : Nat → Prop) (s : St) (line : Int) (p : ByteArray) (x k a b : Int) (w : World) (hw : WfSt s) (hc : CellAt w o F s) (hp : p.size ≤ 400) :
    Calls Tryd.prog 8 #[.pointer (some ⟨o, 0, none⟩), .int .i64 line, .string p, .agg (fv x k a b)] w (ActT o F (progSt s line p k a b) (.int .i64 (progC s line p k)) w) := by
  obtain ⟨g, cap, ls, rfl, hc⟩ := hc
  exact (ce_program o g cap s ls line p x k a b w hw hc hp).mono fun _ _ h => h.act
theorem ce_foggy (o : Nat) (F : Nat → Prop) (s : St) (line : Int) (p q r : ByteArray) (x k a b : Int) (w : World) (hw : WfSt s) (hc : CellAt w o F s) (_hp : p.size ≤ 400) (_hq : q.size ≤ 400) (_hr : r.size ≤ 400) :
    Calls Tryd.prog 19 #[.pointer (some ⟨o, 0, none⟩), .int .i64 line, .agg (tv3 p q r), .agg (fv x k a b)] w (ActT o F (twoSt s line p q r false k a b) (.int .i64 (twoC s line p q r false k)) w) := by
  obtain ⟨g, cap, ls, rfl, hc⟩ := hc
  exact (ce_foggy0 o g cap s ls line p q r x k a b w hw hc).mono fun _ _ h => h.act
theorem ce_fine (o : Nat) (F : Nat → Prop) (s : St) (line : Int) (p q r : ByteArray) (x k a b : Int) (w : World) (hw : WfSt s) (hc : CellAt w o F s) (_hp : p.size ≤ 400) (_hq : q.size ≤ 400) (_hr : r.size ≤ 400) :
    Calls Tryd.prog 17 #[.pointer (some ⟨o, 0, none⟩), .int .i64 line, .agg (tv3 p q r), .agg (fv x k a b)] w (ActT o F (twoSt s line p q r true k a b) (.int .i64 (twoC s line p q r true k)) w) := by
  obtain ⟨g, cap, ls, rfl, hc⟩ := hc
  exact (ce_fine0 o g cap s ls line p q r x k a b w hw hc).mono fun _ _ h => h.act
theorem ce_erase (o : Nat) (F : Nat → Prop) (s : St) (x k a b : Int) (w : World) (hw : WfSt s) (hc : CellAt w o F s) (h1 : s.slc < 1000000000) (h2 : s.tlc < 1000000000) :
    Calls Tryd.prog 14 #[.pointer (some ⟨o, 0, none⟩), .agg (fv x k a b)] w (ActT o F (eraseSt s k a b) (.int .i64 (eraseC s k)) w) := by
  obtain ⟨g, cap, ls, rfl, hc⟩ := hc
  exact (ce_erase0 o g cap s ls x k a b w hw hc h1 h2).mono fun _ _ h => h.act
theorem ce_read (o : Nat) (F : Nat → Prop) (s : St) (line part : Int) (w : World) (hw : WfSt s) (hc : CellAt w o F s) :
    Calls Tryd.prog 12 #[.pointer (some ⟨o, 0, none⟩), .int .i64 line, .int .i64 part] w (ReadP s line part w) := by
  obtain ⟨g, cap, ls, rfl, hc⟩ := hc
  by_cases h : ReadOk s line part
  · exact ce_read_yes o g cap s ls line part w hw hc h
  · exact ce_read_no o g cap s ls line part w hw hc h
theorem ce_mode (o : Nat) (F : Nat → Prop) (s : St) (w : World) (_hw : WfSt s) (hc : CellAt w o F s) : Calls Tryd.prog 15 #[.pointer (some ⟨o, 0, none⟩)] w fun e w' => e = .returned (.int .i64 s.mode) ∧ w = w' := by
  obtain ⟨g, cap, ls, rfl, hc⟩ := hc
  exact ce_mode0 o _ w s.mode hc.cell rfl
theorem ce_done (o : Nat) (F : Nat → Prop) (s : St) (w : World) (_hw : WfSt s) (hc : CellAt w o F s) : Calls Tryd.prog 16 #[.pointer (some ⟨o, 0, none⟩)] w fun e w' => e = .returned (.int .i64 s.done) ∧ w = w' := by
  obtain ⟨g, cap, ls, rfl, hc⟩ := hc
  exact ce_done0 o _ w s.done hc.cell rfl
theorem ce_bad (o : Nat) (F : Nat → Prop) (s : St) (w : World) (_hw : WfSt s) (hc : CellAt w o F s) : Calls Tryd.prog 10 #[.pointer (some ⟨o, 0, none⟩)] w fun e w' => e = .returned (.bool s.bad) ∧ w = w' := by
  obtain ⟨g, cap, ls, rfl, hc⟩ := hc
  exact ce_bad0 o _ w s.bad hc.cell rfl
theorem ce_torn (o : Nat) (F : Nat → Prop) (s : St) (w : World) (_hw : WfSt s) (hc : CellAt w o F s) : Calls Tryd.prog 11 #[.pointer (some ⟨o, 0, none⟩)] w fun e w' => e = .returned (.bool s.torn) ∧ w = w' := by
  obtain ⟨g, cap, ls, rfl, hc⟩ := hc
  exact ce_torn0 o _ w s.torn hc.cell rfl
theorem ce_counts (o : Nat) (F : Nat → Prop) (s : St) (w : World) (_hw : WfSt s) (hc : CellAt w o F s) : Calls Tryd.prog 20 #[.pointer (some ⟨o, 0, none⟩)] w fun e w' => e = .returned (.tuple #[.int .i64 s.slc, .int .i64 s.tlc]) ∧ Below w.heap.size w w' := by
  obtain ⟨g, cap, ls, rfl, hc⟩ := hc
  exact ce_counts0 o _ w s.slc s.tlc hc.cell rfl rfl
end Go.Proofs.YtjmoecfgpfdncaaDoor

/- Layer 8, the laws: alike, short. -/
namespace Go.Proofs.YtjmoecfgpfdncaaDoor
set_option maxRecDepth 100000
open Go.RowKit

theorem CellAt.below {w w' : World} {o B : Nat} {F : Nat → Prop} {s : St} (h : CellAt w o F s) (hb : Below B w w') (hF : ∀ k, F k → k < B) : CellAt w' o F s := h.keep fun k hk => hb.block k (hF k hk)

end Go.Proofs.YtjmoecfgpfdncaaDoor

/- Layer 8, the laws: the chapter's example. -/
namespace Go.Proofs.YtjmoecfgpfdncaaDoor
set_option maxRecDepth 100000
open Go.RowKit

theorem takes_pg (s : St) (hy : s.Y = 8) (n : Nat) : takesB s (pgS n) = true := by
  unfold takesB rawOf
  rw [hy, pgS_size]
  rfl
def ex0 : St := newSt 2 8
def ex1 : St := ⟨2, 8, 1, 1, false, false, 0, 0, [pgS 1, ByteArray.empty, ByteArray.empty, ByteArray.empty, ByteArray.empty, ByteArray.empty], [false, false, false, false, false, false]⟩
def ex2 : St := ⟨2, 8, 1, 2, false, false, 0, 0, [pgS 1, ByteArray.empty, ByteArray.empty, pgS 2, ByteArray.empty, ByteArray.empty], [false, false, false, false, false, false]⟩
theorem ex_a : progSt ex0 1 (pgS 1) 0 0 0 = ex0 ∧ progC ex0 1 (pgS 1) 0 = 80 := pr_no (fun h => by have := h.2.2.2.1; exact absurd this (by decide))
theorem ex_b : progSt ex0 0 (pgS 1) 0 0 0 = ex1 ∧ progC ex0 0 (pgS 1) 0 = 0 := by
  have h : ProgOk ex0 0 (pgS 1) := ⟨rfl, rfl, by decide, rfl, by decide, takes_pg ex0 rfl 1⟩
  refine ⟨(pr_yes h).1.trans rfl, (pr_yes (a := 0) (b := 0) h).2.trans rfl⟩
theorem ex_c : progSt ex1 1 (pgS 2) 0 0 0 = ex2 ∧ progC ex1 1 (pgS 2) 0 = 0 := by
  have h : ProgOk ex1 1 (pgS 2) := ⟨rfl, rfl, by decide, rfl, by decide, takes_pg ex1 rfl 2⟩
  refine ⟨(pr_yes h).1.trans rfl, (pr_yes (a := 0) (b := 0) h).2.trans rfl⟩
theorem pg_full (n : Nat) : ¬ pgS n = ByteArray.empty := fun h => by have := pgS_size n; rw [h] at this; exact absurd this (by decide)
theorem ex_d : readT ex2 1 0 = pgS 2 ∧ readC ex2 1 0 = 0 := by
  have h : ReadOk ex2 (1 : Nat) (0 : Nat) := ⟨by decide, by decide, by decide, by decide, by decide⟩
  have h2 := read_yes h
  refine ⟨h2.1.trans ?_, h2.2⟩
  unfold atT
  rw [show pageAt ex2 (3 * 1 + 0) = pgS 2 from rfl, if_neg (pg_full 2), if_neg (by decide), if_neg (by decide)]
theorem ex_e : progSt ex2 2 (pgS 3) 0 0 0 = ex2 ∧ progC ex2 2 (pgS 3) 0 = 80 := pr_no (fun h => by have := h.2.2.2.2.1; exact absurd this (by decide))
theorem ex_f : twoSt ex2 0 ByteArray.empty ByteArray.empty ByteArray.empty false 0 0 0 = ex2 ∧ twoC ex2 0 ByteArray.empty ByteArray.empty ByteArray.empty false 0 = 80 := two_no (fun h => by have := h.2.2.1; exact absurd this (by decide))
theorem ex0_wf : WfSt ex0 := newSt_ok (by decide) (by decide) ⟨by decide, by decide, by decide⟩
theorem ex1_wf : WfSt ex1 := by rw [← ex_b.1]; exact progSt_wf ex0_wf _ _ _ _ _
theorem ex2_wf : WfSt ex2 := by rw [← ex_c.1]; exact progSt_wf ex1_wf _ _ _ _ _
theorem pgS_le (n : Nat) : (pgS n).size ≤ 400 := by rw [pgS_size]; decide
/-- the tables stay, the cell's blocks are new: what holds while the example goes on -/
structure EX (w0 : World) (o : Nat) (F : Nat → Prop) (s : St) (w : World) : Prop where
  cell : CellAt w o F s
  new : ∀ k, F k → w0.heap.size ≤ k
  low : Below w0.heap.size w0 w
theorem EX.after {w0 w w' : World} {o : Nat} {F : Nat → Prop} {s : St} (h : EX w0 o F s w) (hb : Below w.heap.size w w') : EX w0 o F s w' :=
  ⟨h.cell.below hb h.cell.lt, h.new, h.low.trans (hb.mono h.low.size)⟩
theorem EX.act {w0 w w' : World} {o : Nat} {F F' : Nat → Prop} {s t : St} (h : EX w0 o F s w) (hc : CellAt w' o F' t) (hg : Grows F F' w) (ho : Only F w w') : EX w0 o F' t w' :=
  ⟨hc, fun k hk => (hg k hk).elim (h.new k) (fun h1 => Nat.le_trans h.low.size h1), h.low.trans (ho.below h.low.size h.new)⟩

set_option maxHeartbeats 2000000 in
theorem ce_works (w : World) (hT : Tabs w) : Calls Tryd.prog 6 #[] w fun e w' => e = .returned (.bool true) ∧ Below w.heap.size w w' := by
  have HTB : Hid (∀ w', Below w.heap.size w w' → Tabs w') := fun w' hb => hT.after hb
  clear hT
  go_enter Tryd.func6, Tryd.ntmps6
  go_wp2_with fail
  refine (ce_new 2 8 _).mono ?_
  rintro e w1 ⟨hy, _, hb1⟩
  obtain ⟨o, F, rfl, hc, hF⟩ := hy ⟨⟨by decide, by decide⟩, by decide, ⟨by decide, by decide, by decide⟩⟩
  have E1 : Hid (EX w o F ex0 w1) := ⟨hc, hF, hb1⟩
  clear hy hc hF hb1
  go_wp2_with fail
  refine (ce_pageOf 1 _ (by decide) (HTB.out _ E1.out.low)).mono ?_
  rintro e w2 ⟨rfl, hb2⟩
  have E2 := Lib.hid (E1.out.after hb2)
  clear hb2 E1
  go_wp2_with fail
  refine (ce_prog o F ex0 1 (pgS 1) 0 0 0 0 _ ex0_wf E2.out.cell (pgS_le 1)).mono ?_
  rintro e w3 ⟨rfl, ⟨F3, hc, hg⟩, ho⟩
  rw [ex_a.1] at hc
  have E3 := Lib.hid (E2.out.act hc hg ho)
  rw [ex_a.2]
  clear hc hg ho E2
  go_wp2_with fail
  refine (ce_pageOf 1 _ (by decide) (HTB.out _ E3.out.low)).mono ?_
  rintro e w4 ⟨rfl, hb4⟩
  have E4 := Lib.hid (E3.out.after hb4)
  clear hb4 E3
  go_wp2_with fail
  refine (ce_prog o F3 ex0 0 (pgS 1) 0 0 0 0 _ ex0_wf E4.out.cell (pgS_le 1)).mono ?_
  rintro e w5 ⟨rfl, ⟨F5, hc, hg⟩, ho⟩
  rw [ex_b.1] at hc
  have E5 := Lib.hid (E4.out.act hc hg ho)
  rw [ex_b.2]
  clear hc hg ho E4
  go_wp2_with fail
  refine (ce_pageOf 2 _ (by decide) (HTB.out _ E5.out.low)).mono ?_
  rintro e w6 ⟨rfl, hb6⟩
  have E6 := Lib.hid (E5.out.after hb6)
  clear hb6 E5
  go_wp2_with fail
  refine (ce_prog o F5 ex1 1 (pgS 2) 0 0 0 0 _ ex1_wf E6.out.cell (pgS_le 2)).mono ?_
  rintro e w7 ⟨rfl, ⟨F7, hc, hg⟩, ho⟩
  rw [ex_c.1] at hc
  have E7 := Lib.hid (E6.out.act hc hg ho)
  rw [ex_c.2]
  clear hc hg ho E6
  go_wp2_with fail
  refine (ce_read o F7 ex2 1 0 _ ex2_wf E7.out.cell).mono ?_
  rintro e w8 ⟨rfl, hb8⟩
  have E8 := Lib.hid (E7.out.after hb8)
  rw [ex_d.1, ex_d.2]
  clear hb8 E7
  go_wp2_with fail
  refine (ce_pageOf 2 _ (by decide) (HTB.out _ E8.out.low)).mono ?_
  rintro e w9 ⟨rfl, hb9⟩
  have E9 := Lib.hid (E8.out.after hb9)
  clear hb9 E8
  go_wp2_with fail
  refine (ce_pageOf 3 _ (by decide) (HTB.out _ E9.out.low)).mono ?_
  rintro e w10 ⟨rfl, hb10⟩
  have E10 := Lib.hid (E9.out.after hb10)
  clear hb10 E9
  go_wp2_with fail
  refine (ce_prog o F7 ex2 2 (pgS 3) 0 0 0 0 _ ex2_wf E10.out.cell (pgS_le 3)).mono ?_
  rintro e w11 ⟨rfl, ⟨F11, hc, hg⟩, ho⟩
  rw [ex_e.1] at hc
  have E11 := Lib.hid (E10.out.act hc hg ho)
  rw [ex_e.2]
  clear hc hg ho E10
  go_wp2_with fail
  refine (ce_foggy o F11 ex2 0 ByteArray.empty ByteArray.empty ByteArray.empty 0 0 0 0 _ ex2_wf E11.out.cell (by decide) (by decide) (by decide)).mono ?_
  rintro e w12 ⟨rfl, ⟨F12, hc, hg⟩, ho⟩
  rw [ex_f.1] at hc
  have E12 := Lib.hid (E11.out.act hc hg ho)
  rw [ex_f.2]
  clear hc hg ho E11
  go_wp2_with fail
  refine (ce_mode o F12 ex2 _ ex2_wf E12.out.cell).mono ?_
  rintro e w13 ⟨rfl, rfl⟩
  rw [show ex2.mode = 1 from rfl]
  go_wp2_with fail
  refine (ce_done o F12 ex2 _ ex2_wf E12.out.cell).mono ?_
  rintro e w14 ⟨rfl, rfl⟩
  rw [show ((ex2.done : Nat) : Int) = 2 from rfl]
  go_wp2_with fail
  go_ret
  exact ⟨rfl, E12.out.low⟩

end Go.Proofs.YtjmoecfgpfdncaaDoor
