/- Texts of one claim, merged: CeCB, CeCC, CeCD, CeC1, CeL1, CeL2, ChW, ChB, ChA, FaQ, FaS2, FaS3, FaS7, FaS4. -/
import Derived.Test.YtalefbmoebobkaaGreatDoorS7
import Derived.Lib.SliceRun
import Derived.Laws.MakeOwn
import Derived.Test.YtalefbmoebobkaaGreatDoorS6
/- Package cell, walked: Erase whole. -/
namespace Go.Proofs.YtalefbmoebobkaaGreatDoor
set_option maxRecDepth 100000
open Go.RowKit
theorem endW_cell {w : World} {o L g cap : Nat} {bl : ByteArray} {m : Int} {d sl tl : Nat} {b t : Bool} (h : Blk w o (cc L g cap bl m d sl tl b t) 103) (k : Int) :
  Blk (endW o k w) o (cc L g cap bl m d sl tl (if k = 2 then true else b) (if k = 1 then true else t)) 103 := by
 unfold endW
 by_cases h1 : k = 1
 ·subst h1
  rw [if_pos rfl, if_neg (by decide), if_pos rfl]
  exact h.set 7 _ rfl
 ·rw [if_neg h1, if_neg h1]
  by_cases h2 : k = 2
  ·subst h2
   rw [if_pos rfl, if_pos rfl]
   exact h.set 6 _ rfl
  ·rw [if_neg h2, if_neg h2]
   exact h
theorem endW_rows {w : World} {o g : Nat} {ls : List Ln} (h : LnsAt w g ls) (hne : o ≠ g) (k : Int) : LnsAt (endW o k w) g ls := by
 unfold endW
 split
 ·exact h.set_cell hne _ _
 ·split
  ·exact h.set_cell hne _ _
  ·exact h
theorem endW_only {w w' : World} {o g : Nat} (h : Only (FF o g) w w') (k : Int) : Only (FF o g) w (endW o k w') := by
 unfold endW
 split
 ·exact h.setCell ⟨o, 7, none⟩ _ (Or.inl rfl)
 ·split
  ·exact h.setCell ⟨o, 6, none⟩ _ (Or.inl rfl)
  ·exact h
theorem endSt_bits (t : St) (k : Int) : (endSt t k).bad = (if k = 2 then true else t.bad) ∧ (endSt t k).torn = (if k = 1 then true else t.torn) ∧ (endSt t k).slc = t.slc ∧ (endSt t k).tlc = t.tlc := by
 unfold endSt
 by_cases h1 : k = 1
 ·subst h1; rw [if_pos rfl, if_neg (by decide), if_pos rfl]; exact ⟨rfl, rfl, rfl, rfl⟩
 ·rw [if_neg h1, if_neg h1]
  by_cases h2 : k = 2
  ·subst h2; rw [if_pos rfl, if_pos rfl]; exact ⟨rfl, rfl, rfl, rfl⟩
  ·rw [if_neg h2, if_neg h2]; exact ⟨rfl, rfl, rfl, rfl⟩
theorem more_counts (s : St) : (moreSt s).slc = (if s.mode = 2 then s.slc else s.slc + 1) ∧ (moreSt s).tlc = (if s.mode = 2 then s.tlc + 1 else s.tlc) ∧ (moreSt s).bad = s.bad ∧ (moreSt s).torn = s.torn := by
 unfold moreSt
 split
 ·exact ⟨rfl, rfl, rfl, rfl⟩
 ·exact ⟨rfl, rfl, rfl, rfl⟩
theorem ruin_flags (s t : St) (a b k : Int) : ∀ n, (ruinTo s t a b k n).bad = t.bad ∧ (ruinTo s t a b k n).torn = t.torn ∧ (ruinTo s t a b k n).slc = t.slc ∧ (ruinTo s t a b k n).tlc = t.tlc
 | 0 => ⟨rfl, rfl, rfl, rfl⟩
 | n + 1 => ruin_flags s t a b k n
theorem slc_flags (s : St) : (slcSt s).bad = s.bad ∧ (slcSt s).torn = s.torn ∧ (slcSt s).slc = s.slc ∧ (slcSt s).tlc = s.tlc := by
 unfold slcSt
 split <;> exact ⟨rfl, rfl, rfl, rfl⟩
theorem CodeAt.ruined {w w1 : World} {o g cap : Nat} {s : St} {ls l2 : List Ln} {k a b : Int} (hc : CodeAt w o g cap s ls) (hw : WfSt s) (hb : s.bad = false) (hk : hurtsB k = true)
  (h1 : Blk w1 o (cc s.L g cap (blankS s.Y) (if s.mode = 0 then 1 else s.mode) s.done (if s.mode = 2 then s.slc else s.slc + 1) (if s.mode = 2 then s.tlc + 1 else s.tlc) s.bad s.torn) 103)
  (h2 : Ruined s.mode s.L s.done ls a b s.L l2) (h3 : LnsAt w1 g l2) : CodeAt (endW o k w1) o g cap (eraseSt s k a b) l2 := by
 have ha : AbsC (eraseSt s k a b) l2 := hc.abs.ruin hw hb k a b hk h2.1 (fun i hi => by rw [h2.2.1 i hi, told_is])
 have he : eraseSt s k a b = endSt (slcSt (ruinTo (moreSt s) (moreSt s) a b k (3 * s.L))) k := by
  unfold eraseSt
  rw [if_neg (by rw [hb]; simp), if_pos hk]
 have m1 := more_all s
 have m2 := more_counts s
 have r1 := ruin_all (moreSt s) (moreSt s) a b k (3 * s.L)
 have r2 := ruin_flags (moreSt s) (moreSt s) a b k (3 * s.L)
 obtain ⟨R, hR⟩ : ∃ R, ruinTo (moreSt s) (moreSt s) a b k (3 * s.L) = R := ⟨_, rfl⟩
 rw [hR] at he r1 r2
 have s1 := slc_all R
 have s2 := slc_flags R
 have e1 := end_same (slcSt R) k
 have e2 := endSt_bits (slcSt R) k
 rw [he] at ha ⊢
 refine ⟨hc.ne, ?_, ?_, endW_rows h3 hc.ne k, ha⟩
 ·rw [e1.1, s1.1, r1.1, m1.1]; exact hc.pos
 ·rw [e1.1, e1.2.1, e1.2.2.1, e1.2.2.2, e2.1, e2.2.1, e2.2.2.1, e2.2.2.2, s1.1, s1.2.1, s1.2.2.2.2.1, s1.2.2.2.2.2, s2.1, s2.2.1, s2.2.2.1, s2.2.2.2, r1.1, r1.2.1, r1.2.2.1, r1.2.2.2, r2.1, r2.2.1, r2.2.2.1, r2.2.2.2, m1.1, m1.2.1, m1.2.2.2.2.1, m1.2.2.2.2.2, m2.1, m2.2.1, m2.2.2.1, m2.2.2.2]
  exact endW_cell h1 k
theorem CodeAt.cleaned {w w1 : World} {o g cap : Nat} {s : St} {ls : List Ln} {k a b : Int} (hc : CodeAt w o g cap s ls) (hw : WfSt s) (hb : s.bad = false) (hk : hurtsB k = false) (hs1 : s.slc < 1000000000) (hs2 : s.tlc < 1000000000)
  (h1 : Blk w1 o (cc s.L g cap (blankS s.Y) 0 0 (if s.mode = 2 then s.slc else s.slc + 1) (if s.mode = 2 then s.tlc + 1 else s.tlc) s.bad false) 103)
  (h3 : LnsAt w1 g (List.replicate s.L (blankL (blankS s.Y)))) : CodeAt (endW o k w1) o g cap (eraseSt s k a b) (List.replicate s.L (blankL (blankS s.Y))) := by
 have ha : AbsC (eraseSt s k a b) (List.replicate s.L (blankL (blankS s.Y))) := AbsC.clean hw hb k a b hk hs1 hs2
 have he : eraseSt s k a b = { newSt s.L s.Y with slc := (moreSt s).slc, tlc := (moreSt s).tlc } := by
  unfold eraseSt
  rw [if_neg (by rw [hb]; simp), if_neg (by rw [hk]; simp)]
 have m2 := more_counts s
 have k1 : ¬ k = 1 := fun h => by subst h; cases hk
 have k2 : ¬ k = 2 := fun h => by subst h; cases hk
 have hend : endW o k w1 = w1 := by unfold endW; rw [if_neg k1, if_neg k2]
 rw [hend]
 rw [he] at ha ⊢
 refine ⟨hc.ne, hc.pos, ?_, h3, ha⟩
 show Blk w1 o (cc s.L g cap (blankS s.Y) 0 0 (moreSt s).slc (moreSt s).tlc false false) 103
 rw [m2.1, m2.2.1]
 rw [hb] at h1
 exact h1
set_option maxHeartbeats 1000000 in
theorem ce_erase0 (o g cap : Nat) (s : St) (ls : List Ln) (x k a b : Int) (w : World) (hw : WfSt s) (hc : CodeAt w o g cap s ls) (hs1 : s.slc < 1000000000) (hs2 : s.tlc < 1000000000) :
  Calls Tryz.prog 53 #[.pointer (some ⟨o, 0, none⟩), .agg (fv x k a b)] w (ActR o g cap (eraseSt s k a b) (.int .i64 (eraseC s k)) w) := by
 obtain ⟨w2, hw2⟩ : ∃ w2, (w.alloc (.cells #[.pointer (some ⟨o, 0, none⟩)] 59)).alloc (.cells (fv x k a b) 40) = w2 := ⟨_, rfl⟩
 have hb2 : Below w.heap.size w w2 := by rw [← hw2]; exact ((Below.refl _ _).alloc (Nat.le_refl _) _).alloc (by simp) _
 have hs2' : w2.heap.size = w.heap.size + 2 := by rw [← hw2]; simp only [World.size_alloc]
 have k0 : Blk w2 w.heap.size #[.pointer (some ⟨o, 0, none⟩)] 59 := by rw [← hw2]; exact (Blk.new w _ _).alloc _
 have k1 : Blk w2 (w.heap.size + 1) (fv x k a b) 40 := by
  rw [← hw2]
  have h := Blk.new (w.alloc (.cells #[.pointer (some ⟨o, 0, none⟩)] 59)) (fv x k a b) 40
  rwa [World.size_alloc] at h
 have hc2 := hc.after hb2
 have hol := hc.lt
 by_cases hb : s.bad = true
 ·have he : eraseSt s k a b = s ∧ eraseC s k = 80 := by unfold eraseSt eraseC; rw [if_pos hb, if_pos hb]; exact ⟨rfl, rfl⟩
  rw [he.1, he.2]
  have c6 : w2.cell? ⟨o, 6, none⟩ = some (.bool true) := by rw [hc2.cell.cell 6, ← hb]; rfl
  have HC2 := Lib.hid hc2
  have HB2 := Lib.hid hb2
  subst hw2
  clear hb2 hs2' k0 k1 hc2 hol hb he hw hc
  go_enter Tryz.func53, Tryz.ntmps53
  go_wp2_with fail
  go_ret
  exact ⟨rfl, ⟨ls, HC2.out⟩, Only.of_below HB2.out⟩
 ·have hbf : s.bad = false := by simpa using hb
  have he : eraseC s k = endC k := by unfold eraseC; rw [if_neg hb]
  rw [he]
  have c6 : w2.cell? ⟨o, 6, none⟩ = some (.bool false) := by rw [hc2.cell.cell 6, ← hbf]; rfl
  obtain ⟨w4, hw4⟩ : ∃ w4, (w2.alloc (.cells #[.pointer (some ⟨o, 0, none⟩)] 59)).alloc (.cells (fv x k a b) 40) = w4 := ⟨_, rfl⟩
  have hb4 : Below w2.heap.size w2 w4 := by rw [← hw4]; exact ((Below.refl _ _).alloc (Nat.le_refl _) _).alloc (by simp) _
  have k2 : Blk w4 w2.heap.size #[.pointer (some ⟨o, 0, none⟩)] 59 := by rw [← hw4]; exact (Blk.new w2 _ _).alloc _
  have k3 : Blk w4 (w2.heap.size + 1) (fv x k a b) 40 := by
   rw [← hw4]
   have h := Blk.new (w2.alloc (.cells #[.pointer (some ⟨o, 0, none⟩)] 59)) (fv x k a b) 40
   rwa [World.size_alloc] at h
  have hc4 := hc2.after hb4
  have hbb := hb2.trans (hb4.mono hb2.size)
  -- what the closure leaves
  obtain ⟨R, hR⟩ : ∃ R : World → Prop, R = fun w' => (∃ l3, CodeAt (endW o k w') o g cap (eraseSt s k a b) l3) ∧ (∃ cs : Array Value, cs.size = 8 ∧ Blk w' o cs 103) ∧ Only (FF o g) w4 w' := ⟨_, rfl⟩
  have hdo : Calls Tryz.prog 95 (#[.bool (!hurtsB k)] ++ #[.pointer (some ⟨w.heap.size, 0, none⟩), .pointer (some ⟨w.heap.size + 1, 0, none⟩)]) w4 fun e w' => e = .returned (.tuple #[]) ∧ R w' := by
   rw [hR]
   cases hk : hurtsB k with
   | true =>
    refine (ce_erase1_no o s.L g cap (blankS s.Y) s.mode s.done s.slc s.tlc s.bad s.torn ls w.heap.size (w.heap.size + 1) x k a b w4 hc4.cell hc4.rows hc4.abs.len hc4.ne hw.l1 hw.l64 hw.done hw.mode hs1 hs2 hc4.abs.size ((k0.after hb4).cell 0) (k1.after hb4) ⟨by omega, by omega⟩ ⟨by omega, by omega⟩).mono ?_
    rintro e w' ⟨rfl, h1, ⟨l2, h2, h3⟩, h4⟩
    exact ⟨rfl, ⟨l2, hc4.ruined hw hbf hk h1 h2 h3⟩, ⟨_, rfl, h1⟩, h4⟩
   | false =>
    refine (ce_erase1_yes o s.L g cap (blankS s.Y) s.mode s.done s.slc s.tlc s.bad s.torn ls w.heap.size (w.heap.size + 1) w4 hc4.cell hc4.rows hc4.abs.len hc4.ne hw.l64 hs1 hs2 ((k0.after hb4).cell 0) (by omega)).mono ?_
    rintro e w' ⟨rfl, h1, h3, h4⟩
    exact ⟨rfl, ⟨_, hc4.cleaned hw hbf hk hs1 hs2 h1 h3⟩, ⟨_, rfl, h1⟩, h4⟩
  have hRR : ∀ w', R w' → w'.cell? ⟨w2.heap.size, 0, none⟩ = some (.pointer (some ⟨o, 0, none⟩)) ∧ ∃ cs : Array Value, cs.size = 8 ∧ Blk w' o cs 103 := by
   intro w' h
   rw [hR] at h
   exact ⟨h.2.2.cell (k2.cell 0) (fun hf => by
    have hf2 : w2.heap.size = o ∨ w2.heap.size = g := hf
    omega), h.2.1⟩
  have HTH := Lib.hid (ce_thru_erase (w2.heap.size + 1) w2.heap.size o x k a b w.heap.size (w.heap.size + 1) w4 R k3 hdo hRR)
  have HK1 := Lib.hid k1
  have HW2 := Lib.hid hw2
  have HW4 := Lib.hid hw4
  have HBB := Lib.hid hbb
  have HR := Lib.hid hR
  have c0 : w2.cell? ⟨w.heap.size, 0, none⟩ = some (.pointer (some ⟨o, 0, none⟩)) := k0.cell 0
  have c6' : ((w.alloc (.cells #[.pointer (some ⟨o, 0, none⟩)] 59)).alloc (.cells (fv x k a b) 40)).cell? ⟨o, 6, none⟩ = some (.bool false) := by rw [hw2]; exact c6
  clear hw hc hb2 hs2' k0 k1 hc2 hol hb he hb4 k2 k3 hc4 hbb hdo hRR hR hw2 hw4 hs1 hs2 c6 hbf
  go_enter Tryz.func53, Tryz.ntmps53
  go_wp2_with (first
   | (change wpList _ _ _ _ _ ((w.alloc (.cells #[.pointer (some ⟨o, 0, none⟩)] 59)).alloc (.cells (fv x k a b) 40)); rw [HW2.out]; refine wpList_load_row rfl 40 (.tmp 3) rfl (w.heap.size + 1) rfl 40 (fv x k a b) (0, 0) _ HK1.out Tryz.underlying40 rfl size_fault ?_))
  refine (ce_through o x k a b _).mono ?_
  rintro e w6 ⟨rfl, rfl⟩
  rw [HW4.out]
  go_wp2_with fail
  refine HTH.out.mono ?_
  rintro e w8 ⟨rfl, w9, hr, rfl⟩
  rw [HR.out] at hr
  have HRR := Lib.hid hr
  clear hr HTH
  go_wp2_with fail
  go_ret
  exact ⟨rfl, HRR.out.1, endW_only ((Only.of_below (F := FF o g) HBB.out).trans HRR.out.2.2 (fun _ hk => Or.inl hk)) k⟩
/- Package cell, walked: New, Read, Copy. -/
def cellsN (ls : List Ln) : List Value := ls.flatMap lnL
theorem cellsN_length : ∀ ls, (cellsN ls).length = ls.length * 4
 | [] => rfl
 | x :: l => by
  have := cellsN_length l
  simp only [cellsN, List.flatMap_cons, List.length_append] at this ⊢
  rw [this, List.length_cons]
  show 4 + l.length * 4 = (l.length + 1) * 4
  omega
theorem cellsN_at : ∀ (ls : List Ln) (i j : Nat), i < ls.length → j < 4 → (cellsN ls)[i * 4 + j]? = (lnL (lnAt ls i))[j]?
 | [], i, j, h, _ => absurd h (Nat.not_lt_zero i)
 | x :: l, 0, j, _, hj => by
  simp only [cellsN, List.flatMap_cons, Nat.zero_mul, Nat.zero_add]
  rw [List.getElem?_append_left (by exact hj)]
  rfl
 | x :: l, i + 1, j, h, hj => by
  have ih := cellsN_at l i j (by simpa using h) hj
  simp only [cellsN, List.flatMap_cons] at ih ⊢
  rw [List.getElem?_append_right (by show 4 ≤ _; omega)]
  have e : (i + 1) * 4 + j - (lnL x).length = i * 4 + j := by show (i + 1) * 4 + j - 4 = _; omega
  rw [e, ih]
  rfl
theorem LnsAt.of_blk {w : World} {g : Nat} {cs : Array Value} {t : TypeId} {ls : List Ln} (h : Blk w g cs t) (hc : cs.toList.take (ls.length * 4) = cellsN ls) : LnsAt w g ls := by
 have key : ∀ i j, i < ls.length → j < 4 → w.cell? ⟨g, i * 4 + j, none⟩ = (lnL (lnAt ls i))[j]? := by
  intro i j hi hj
  rw [h.cell, ← cellsN_at ls i j hi hj, ← hc, List.getElem?_take_of_lt (by omega)]
  simp
 intro i hi
 refine ⟨fun j v hv => ?_, fun j hj => ?_⟩
 ·have hj : j < 4 := (List.getElem?_eq_some_iff.1 hv).1
  rw [key i j hi hj]; exact hv
 ·refine ⟨?_, h.free _⟩
  rw [key i j hi hj]
  have : j < (lnL (lnAt ls i)).length := hj
  rw [List.getElem?_eq_getElem this]; rfl
theorem lnL_all (ls : List Ln) : ∀ u ∈ cellsN ls, u.oneCell' = true := by
 intro u hu
 unfold cellsN at hu
 rw [List.mem_flatMap] at hu
 obtain ⟨l, _, h⟩ := hu
 exact lnL_one l u h
theorem infoLine : (Tryz.prog.info? 116).map (fun i => (i.zero, i.size, i.bytes)) = some (some (.agg #[.string ByteArray.empty, .string ByteArray.empty, .string ByteArray.empty, .bool false]), 4, 56) := by kernel_rfl
set_option maxHeartbeats 1000000 in
theorem ce_clone (g L cap : Nat) (ls : List Ln) (w : World) (hl : LnsAt w g ls) (hlen : ls.length = L) (h1 : 1 ≤ L) (h64 : L ≤ 64) :
  Calls Tryz.prog 98 #[.slice (some ⟨g, 0, none⟩) L cap] w fun e w' => ∃ g2 cap2, e = .returned (.slice (some ⟨g2, 0, none⟩) L cap2) ∧ w.heap.size ≤ g2 ∧ LnsAt w' g2 ls ∧ Below w.heap.size w w' := by
 obtain ⟨i0, hi, hz0, hz1, hz2⟩ := info_parts infoLine
 have q : ∀ w, Sem.run Tryz.prog (binOp .eql 101 (.slice (some ⟨g, 0, none⟩) L cap) (.slice none 0 0)) w = .ok (.bool false) w := fun w => Lib.run_eql_slice_nil w _ 116 _ L cap 0 0 Tryz.underlying101
 have HL := Lib.hid hl
 have HLEN := Lib.hid hlen
 clear hl hlen
 go_enter Tryz.func98, Tryz.ntmps98
 go_wp2_with (at_builtin; refine wpList_append_own _ rfl _ _ 101 rfl w.heap.size 116 i0 (.agg #[.string ByteArray.empty, .string ByteArray.empty, .string ByteArray.empty, .bool false]) 4 56 Tryz.underlying101 hi hz0 hz1 hz2 rfl (by decide) _ _ _ rfl (World.ownsRow_made w #[] 0 (Nat.le_refl _) (Nat.zero_le _) rfl) ⟨g, 0, none⟩ L cap (cellsN ls) rfl ?c1 ?c2 ?c3 ?c4 ?c5 ?c6 ?_)
 case c1 => rw [cellsN_length, HLEN.out]
 case c2 =>
  intro j u hj
  have hjn : j < ls.length * 4 := by
   have := (List.getElem?_eq_some_iff.1 hj).1
   rwa [cellsN_length] at this
  rw [Addr.add_mid, Nat.zero_add]
  have h3 : w.cell? ⟨g, j / 4 * 4 + j % 4, none⟩ = some u := by
   refine (HL.out (j / 4) (by omega)).1 (j % 4) u ?_
   rw [← cellsN_at ls (j / 4) (j % 4) (by omega) (by omega), show j / 4 * 4 + j % 4 = j by omega]
   exact hj
  rw [show j / 4 * 4 + j % 4 = j by omega] at h3
  exact Lib.cell?_alloc_some _ h3
 case c3 => exact lnL_all ls
 case c4 => unfold maxLen; omega
 case c5 => omega
 case c6 => simp
 intro v' w1 hown hgrow _
 have hb : Below w.heap.size w w1 := ((Below.refl _ w).alloc (Nat.le_refl _) _).grown hgrow (by simp) (by intro k hk; simp [Value.ownBlock] at hk; omega)
 obtain ⟨_, hown⟩ := hown
 rcases hown with ⟨_, hn⟩ | ⟨g2, cap2, cur, rfl, hg2, hcur, _, _, _, ht⟩
 ·omega
 have hb4 : Blk w1 g2 cur 116 := hcur
 have HR : Hid (LnsAt w1 g2 ls) := LnsAt.of_blk hb4 (by rw [HLEN.out]; exact ht)
 have HB := Lib.hid hb
 have HG := Lib.hid hg2
 clear hgrow hb hcur ht hb4 hg2 hi hz0 hz1 hz2
 go_wp2_with fail
 go_ret
 exact ⟨g2, cap2, by simp, HG.out, HR.out, HB.out⟩
set_option maxHeartbeats 1000000 in
theorem ce_copy0 (o g cap : Nat) (s : St) (ls : List Ln) (w : World) (hw : WfSt s) (hc : CodeAt w o g cap s ls) :
  Calls Tryz.prog 54 #[.pointer (some ⟨o, 0, none⟩)] w fun e w' => ∃ o2 g2 cap2, e = .returned (.pointer (some ⟨o2, 0, none⟩)) ∧ CodeAt w' o2 g2 cap2 s ls ∧ w.heap.size ≤ o2 ∧ w.heap.size ≤ g2 ∧ Below w.heap.size w w' := by
 obtain ⟨cs, hcs⟩ : ∃ cs, cc s.L g cap (blankS s.Y) s.mode s.done s.slc s.tlc s.bad s.torn = cs := ⟨_, rfl⟩
 have hk : Blk w o cs 103 := by rw [← hcs]; exact hc.cell
 have hone : cs.all (·.oneCell') = true := by
  rw [← hcs, Array.all_eq_true_iff_forall_mem]
  intro v hv
  simp [cc] at hv
  rcases hv with rfl | rfl | rfl | rfl | rfl | rfl | rfl | rfl <;> rfl
 obtain ⟨z0, hz0⟩ : ∃ z0 : Array Value, #[.slice none 0 0, .string ⟨#[]⟩, .int .i64 0, .int .i64 0, .int .i64 0, .int .i64 0, .bool false, .bool false] = z0 := ⟨_, rfl⟩
 obtain ⟨w1, hw1⟩ : ∃ w1, (w.alloc (.cells #[.slice none 0 0, .string ⟨#[]⟩, .int .i64 0, .int .i64 0, .int .i64 0, .int .i64 0, .bool false, .bool false] 103)).setRow w.heap.size cs = w1 := ⟨_, rfl⟩
 have hzb : Blk (w.alloc (.cells #[.slice none 0 0, .string ⟨#[]⟩, .int .i64 0, .int .i64 0, .int .i64 0, .int .i64 0, .bool false, .bool false] 103)) w.heap.size #[.slice none 0 0, .string ⟨#[]⟩, .int .i64 0, .int .i64 0, .int .i64 0, .int .i64 0, .bool false, .bool false] 103 := Blk.new w _ _
 have hb1 : Below w.heap.size w w1 := by rw [← hw1]; exact below_put (Nat.le_refl _) _ ((Below.refl _ _).alloc (Nat.le_refl _) _)
 have hn1 : Blk w1 w.heap.size cs 103 := by rw [← hw1]; exact hzb.put _
 have hs1 : w1.heap.size = w.heap.size + 1 := by rw [← hw1, size_setRow, World.size_alloc]
 have hc1 := hc.after hb1
 have c0 : w1.cell? ⟨o, 0, none⟩ = some (.slice (some ⟨g, 0, none⟩) s.L cap) := hc1.cell.cell 0
 have hcl := ce_clone g s.L cap ls w1 hc1.rows hc1.abs.len hw.l1 hw.l64
 have hsz : cs.size = 8 := by rw [← hcs]; rfl
 have HCL := Lib.hid hcl
 have HK := Lib.hid hk
 have HONE := Lib.hid hone
 have HZB := Lib.hid hzb
 have HN1 := Lib.hid hn1
 have HB1 := Lib.hid hb1
 have HS1 := Lib.hid hs1
 have HW1 := Lib.hid hw1
 have HC := Lib.hid hc
 have HCS := Lib.hid hcs
 have HSZ := Lib.hid hsz
 have HINF : Hid ((Tryz.prog.info? 103).map (·.size) = some cs.size) := by
  show _ = some cs.size
  rw [hsz]; exact size_code
 clear hcl hk hone hzb hn1 hb1 hs1 hw1 hc hcs hsz hc1 hz0 hw
 go_enter Tryz.func54, Tryz.ntmps54
 go_wp2_with (first
  | (refine wpList_load_row rfl 103 (.tmp 5) rfl o rfl 103 cs (0, 0) _ HK.out Tryz.underlying103 rfl HINF.out ?_)
  | (refine wpList_store_row rfl 103 (.tmp 3) (.tmp 6) rfl w.heap.size cs rfl rfl 103 _ HZB.out HINF.out (by rw [HSZ.out]; rfl) HONE.out ?_; change wpList _ _ _ _ _ ((w.alloc (.cells #[.slice none 0 0, .string ⟨#[]⟩, .int .i64 0, .int .i64 0, .int .i64 0, .int .i64 0, .bool false, .bool false] 103)).setRow w.heap.size cs); rw [HW1.out]))
 refine HCL.out.mono ?_
 rintro e w2 ⟨g2, cap2, rfl, hg2, hr2, hb2⟩
 have hn2 := HN1.out.after hb2
 have c0' : w2.cell? ⟨w.heap.size, 0, none⟩ = some (.slice (some ⟨g, 0, none⟩) s.L cap) := by rw [hn2.cell 0, ← HCS.out]; rfl
 have f0 := hn2.free 0
 have HN2 := Lib.hid hn2
 have HR2 := Lib.hid hr2
 have HB2 := Lib.hid hb2
 have HG2 := Lib.hid hg2
 clear hn2 hr2 hb2 hg2 HCL HN1
 go_wp2_with fail
 go_ret
 have hs := HS1.out
 have hg := HG2.out
 have hbb := HB1.out.trans (HB2.out.mono HB1.out.size)
 refine ⟨w.heap.size, g2, cap2, rfl, ⟨by omega, HC.out.pos, ?_, HR2.out.keep (Below.heap_setCell _ _ _ _ (by show g2 ≠ w.heap.size; omega)), HC.out.abs⟩, Nat.le_refl _, by omega, hbb.setCell (p := ⟨w.heap.size, 0, none⟩) (Nat.le_refl _) _⟩
 exact HN2.out.set 0 _ (by rw [← HCS.out]; rfl)
theorem made_lines (w : World) (L : Nat) : LnsAt (w.alloc (.cells (madeCells #[.string ByteArray.empty, .string ByteArray.empty, .string ByteArray.empty, .bool false] (L * 4)) 116)) w.heap.size (List.replicate L l0) := by
 refine LnsAt.of_blk (Blk.new w _ _) ?_
 rw [List.length_replicate]
 refine List.ext_getElem? fun k => ?_
 by_cases hk : k < L * 4
 ·rw [List.getElem?_take_of_lt hk]
  have h1 := cellsN_at (List.replicate L l0) (k / 4) (k % 4) (by rw [List.length_replicate]; omega) (by omega)
  rw [show k / 4 * 4 + k % 4 = k by omega] at h1
  rw [h1]
  have h2 : lnAt (List.replicate L l0) (k / 4) = l0 := by
   unfold lnAt
   rw [List.getD_eq_getElem?_getD, List.getElem?_replicate]
   split <;> rfl
  rw [h2, Array.getElem?_toList, Array.getElem?_eq_getElem (by rw [size_madeCells]; exact hk)]
  simp only [madeCells, Array.getElem_map, Array.getElem_range]
  have h4 : k % 4 = 0 ∨ k % 4 = 1 ∨ k % 4 = 2 ∨ k % 4 = 3 := by omega
  show some ((#[Value.string ByteArray.empty, .string ByteArray.empty, .string ByteArray.empty, .bool false] : Array Value)[k % 4]!) = _
  rcases h4 with h4 | h4 | h4 | h4 <;> rw [h4] <;> rfl
 ·rw [List.getElem?_eq_none (by rw [List.length_take]; omega), List.getElem?_eq_none (by rw [cellsN_length, List.length_replicate]; omega)]
set_option maxHeartbeats 1000000 in
theorem ce_new0 (l y : Int) (w : World) : Calls Tryz.prog 24 #[.int .i64 l, .int .i64 y] w fun e w' =>
  (NewOk l y → ∃ o g cap ls, e = .returned (.tuple #[.pointer (some ⟨o, 0, none⟩), .int .i64 0]) ∧ CodeAt w' o g cap (newSt l.toNat y.toNat) ls ∧ w.heap.size ≤ o ∧ w.heap.size ≤ g)
  ∧ (¬ NewOk l y → e = .returned (.tuple #[.pointer none, .int .i64 60])) ∧ Below w.heap.size w w' := by
 by_cases hok : NewOk l y
 ·obtain ⟨L, rfl⟩ : ∃ L : Nat, l = L := ⟨l.toNat, by unfold NewOk LinesOk at hok; omega⟩
  obtain ⟨Y, rfl⟩ : ∃ Y : Nat, y = Y := ⟨y.toNat, by unfold NewOk at hok; omega⟩
  have h1 := hok.1.1
  have h2 := hok.1.2
  have hy : LenOk Y := by have := hok.2.2; simpa using this
  have hbl : blankT (Y : Int) = blankS Y := by
   unfold blankT
   rw [if_pos hok.2]
   simp
  have hfull := blankS_full hy
  obtain ⟨bl, hb⟩ : ∃ bl, blankS Y = bl := ⟨_, rfl⟩
  have hq : (bl.toList == ([] : List UInt8)) = false := by
   rw [beq_eq_false_iff_ne, ByteArray.toList_eq, ← hb]
   intro h
   exact hfull (ByteArray.ext (Array.toList_inj.1 h))
  have HBL : Hid (∀ w, Calls Tryz.prog 63 #[.int .i64 (Y : Int)] w fun r w' => r = .returned (.string bl) ∧ Below w.heap.size w w') := fun w => by
   have h := fr_blank (Y : Int) w
   rw [hbl, hb] at h
   exact h
  obtain ⟨i0, hi, hz0, hz1, hz2⟩ := info_parts infoLine
  have hmk : ∀ w, Sem.run Tryz.prog (Instr.makeSlice 101 (.int .i64 (L : Int)) (.int .i64 (L : Int))) w = .ok (.slice (some ⟨w.heap.size, 0, none⟩) L L) (w.alloc (.cells (madeCells #[.string ByteArray.empty, .string ByteArray.empty, .string ByteArray.empty, .bool false] (L * 4)) 116)) := fun w => by
   have h := run_make (P := Tryz.prog) w 101 116 i0 _ Tryz.underlying101 hi hz0 .i64 .i64 (L : Int) (L : Int) (by omega) (Int.le_refl _) (by rw [hz2]; omega) (by omega)
   rw [hz1] at h
   simp only [Int.toNat_natCast] at h
   exact h
  clear hi hz0 hz1 hz2
  go_enter Tryz.func24, Tryz.ntmps24
  go_wp2_with fail
  refine (HBL.out _).mono ?_
  rintro e w1 ⟨rfl, hb1⟩
  go_wp2_with fail
  have hkc : Blk ((w1.alloc (.cells (madeCells #[.string ByteArray.empty, .string ByteArray.empty, .string ByteArray.empty, .bool false] (L * 4)) 116)).alloc (.cells #[.slice (some ⟨w1.heap.size, 0, none⟩) L L, .string bl, .int .i64 0, .int .i64 0, .int .i64 0, .int .i64 0, .bool false, .bool false] 103)) (w1.heap.size + 1) (cc L w1.heap.size L bl 0 0 0 0 false false) 103 := by
   have h := Blk.new (w1.alloc (.cells (madeCells #[.string ByteArray.empty, .string ByteArray.empty, .string ByteArray.empty, .bool false] (L * 4)) 116)) (cc L w1.heap.size L bl 0 0 0 0 false false) 103
   rw [World.size_alloc] at h
   exact h
  obtain ⟨w2, hw2⟩ : ∃ w2, (w1.alloc (.cells (madeCells #[.string ByteArray.empty, .string ByteArray.empty, .string ByteArray.empty, .bool false] (L * 4)) 116)).alloc (.cells #[.slice (some ⟨w1.heap.size, 0, none⟩) L L, .string bl, .int .i64 0, .int .i64 0, .int .i64 0, .int .i64 0, .bool false, .bool false] 103) = w2 := ⟨_, rfl⟩
  have hlc : LnsAt w2 w1.heap.size (List.replicate L l0) := by
   rw [← hw2]
   exact (made_lines w1 L).after ((Below.refl _ _).alloc (Nat.le_refl _) _)
  have hb2 : Below w1.heap.size w1 w2 := by rw [← hw2]; exact ((Below.refl _ _).alloc (Nat.le_refl _) _).alloc (by simp) _
  rw [hw2] at hkc ⊢
  refine (ce_empty (w1.heap.size + 1) L w1.heap.size L bl 0 0 0 0 false false (List.replicate L l0) w2 hkc hlc (by simp) (by omega) (by omega)).mono ?_
  rintro e w3 ⟨rfl, e1, e2, e3⟩
  have hbb := hb1.trans (hb2.mono hb1.size)
  have hs1 := hb1.size
  have HB3 : Hid (Below w.heap.size w w3) := hbb.trans (e3.below (hbb.size) (fun k hk => by have hk : k = w1.heap.size + 1 ∨ k = w1.heap.size := hk; omega))
  have HCO : Hid (CodeAt w3 (w1.heap.size + 1) w1.heap.size L (newSt L Y) (List.replicate L (blankL bl))) := by
   have hwf := newSt_ok (l := L) (y := Y) (by omega) (by omega) hy
   refine ⟨by omega, by show 0 < L; omega, ?_, e2, ?_⟩
   ·show Blk w3 _ (cc L w1.heap.size L (blankS Y) 0 0 0 0 false false) _
    rw [hb]; exact e1
   ·rw [← hb]; exact AbsC.new hwf
  have HSZ : Hid (w.heap.size ≤ w1.heap.size) := hs1
  have HOK := Lib.hid hok
  clear hkc hw2 hlc hb2 e1 e2 e3 hbb hs1 hb1 hok hmk
  go_wp2_with fail
  go_ret2
  have hz := HSZ.out
  exact ⟨fun _ => ⟨_, _, _, _, rfl, by simpa using HCO.out, by omega, by omega⟩, fun h => absurd HOK.out h, HB3.out⟩
 ·have HNO := Lib.hid hok
  have hc : l < 1 ∨ (¬ l < 1 ∧ 64 < l) ∨ (¬ l < 1 ∧ ¬ 64 < l ∧ ¬ (0 ≤ y ∧ LenOk y.toNat)) := by
   by_cases h1 : l < 1
   ·exact Or.inl h1
   ·by_cases h2 : 64 < l
    ·exact Or.inr (Or.inl ⟨h1, h2⟩)
    ·exact Or.inr (Or.inr ⟨h1, h2, fun h => hok ⟨⟨by omega, by omega⟩, h⟩⟩)
  obtain ⟨bl, hb⟩ : ∃ bl, blankT y = bl := ⟨_, rfl⟩
  have HBL : Hid (∀ w, Calls Tryz.prog 63 #[.int .i64 y] w fun r w' => r = .returned (.string bl) ∧ Below w.heap.size w w') := fun w => by
   have h := fr_blank y w
   rw [hb] at h
   exact h
  clear hok
  rcases hc with hc | ⟨hc, hc2⟩ | ⟨hc, hc2, hc3⟩
  ·clear hb
   go_enter Tryz.func24, Tryz.ntmps24
   go_wp2_with fail
   refine (HBL.out _).mono ?_
   rintro e w1 ⟨rfl, hb1⟩
   have HB1 := Lib.hid hb1
   clear hb1
   go_wp2_with fail
   go_ret2
   exact ⟨fun h => absurd h HNO.out, fun _ => rfl, HB1.out⟩
  ·clear hb
   go_enter Tryz.func24, Tryz.ntmps24
   go_wp2_with fail
   refine (HBL.out _).mono ?_
   rintro e w1 ⟨rfl, hb1⟩
   have HB1 := Lib.hid hb1
   clear hb1
   go_wp2_with fail
   go_ret2
   exact ⟨fun h => absurd h HNO.out, fun _ => rfl, HB1.out⟩
  ·have hbe : bl = ByteArray.empty := by rw [← hb]; unfold blankT; rw [if_neg hc3]
   subst hbe
   clear hb hc3
   go_enter Tryz.func24, Tryz.ntmps24
   go_wp2_with fail
   refine (HBL.out _).mono ?_
   rintro e w1 ⟨rfl, hb1⟩
   have HB1 := Lib.hid hb1
   clear hb1
   go_wp2_with fail
   go_ret2
   exact ⟨fun h => absurd h HNO.out, fun _ => rfl, HB1.out⟩
/- Package cell, walked: Read. -/
theorem field_pages (p q r : ByteArray) (h : Bool) (w : World) : Sem.run Tryz.prog (Instr.field 116 (.agg #[.string p, .string q, .string r, .bool h]) 0) w = .ok (.agg #[.string p, .string q, .string r]) w := by
 have hu : Tryz.prog.underlying 38 = some (.array 3 9) := by kernel_rfl
 obtain ⟨i, hi, hzz⟩ := Option.map_eq_some_iff.1 size_three
 simp [Instr.field, run_underlying Tryz.underlying116, asAgg, part, isAgg, run_underlying hu, sizeOf, typeInfo, hi, hzz, go_sem]
set_option maxHeartbeats 1000000 in
theorem ce_read_yes (o g cap : Nat) (s : St) (ls : List Ln) (line part : Int) (w : World) (hw : WfSt s) (hc : CodeAt w o g cap s ls) (hok : ReadOk s line part) :
  Calls Tryz.prog 32 #[.pointer (some ⟨o, 0, none⟩), .int .i64 line, .int .i64 part] w (ReadP s line part w) := by
 have hr := hok
 obtain ⟨i, rfl⟩ : ∃ i : Nat, line = i := ⟨line.toNat, by unfold ReadOk at hok; omega⟩
 obtain ⟨t, rfl⟩ : ∃ t : Nat, part = t := ⟨part.toNat, by unfold ReadOk at hok; omega⟩
 have hrd := read_yes hr
 obtain ⟨k1, k2, k3, k4, k5⟩ := hok
 have hi : i < s.L := by omega
 have ht : t < 3 := by omega
 have h1 := hc.abs.read1 i t hi ht (by
  by_cases h0 : t = 0
  ·exact Or.inr h0
  ·exact Or.inl fun h => k5 ⟨h, by omega⟩)
 unfold ReadP
 rw [hrd.1, hrd.2, ← h1.1]
 have htd := ce_told o s.L g cap (blankS s.Y) s.mode s.done s.slc s.tlc s.bad s.torn ls i w hc.cell hc.rows hc.abs.len hw.l1 hw.l64 hw.done hi (hc.abs.size i) hw.mode
 rw [told_is] at htd
 obtain ⟨⟨p, q, r, h⟩, hln⟩ : ∃ ln, lnTold s ls i = ln := ⟨_, rfl⟩
 rw [hln] at htd ⊢
 have hpt : (Ln.mk p q r h).pt t = pgN p q r t := by
  match t, ht with
  | 0, _ => rfl
  | 1, _ => rfl
  | 2, _ => rfl
 rw [hpt]
 have hix := fun w => index_three p q r t ht w
 have hfd := fun w => field_pages p q r h w
 have hmd : s.mode = 1 → (t : Int) = 0 := fun h => by
  have h2 : ¬ (t : Int) ≠ 0 := fun h3 => k5 ⟨h, h3⟩
  omega
 have c0 : w.cell? ⟨o, 0, none⟩ = some (.slice (some ⟨g, 0, none⟩) s.L cap) := hc.cell.cell 0
 have c2 : w.cell? ⟨o, 2, none⟩ = some (.int .i64 s.mode) := hc.cell.cell 2
 have HTD := Lib.hid htd
 have HL := hw.l64
 have HMO := Lib.hid hw.mode
 have HMD := Lib.hid hmd
 obtain ⟨m, hm⟩ : ∃ m, s.mode = m := ⟨_, rfl⟩
 rw [hm] at c2
 have HM := Lib.hid hm
 clear hr hrd h1 htd hln hpt hc hw k5 hmd hm
 by_cases hm1 : m = 1
 ·have ht0 := HMD.out (HM.out.trans hm1)
  obtain rfl : t = 0 := by omega
  have hix : ∀ w, Sem.run Tryz.prog (Instr.index 38 (.agg #[.string p, .string q, .string r]) (.int .i64 0)) w = .ok (.string (pgN p q r 0)) w := hix
  subst hm1
  clear ht0 HMD
  go_enter Tryz.func32, Tryz.ntmps32
  go_wp2_with fail
  refine HTD.out.mono ?_
  rintro e w1 ⟨rfl, hb1⟩
  have HB1 := Lib.hid hb1
  clear hb1 HTD
  unfold lv
  go_wp2_with fail
  go_ret2
  exact ⟨rfl, HB1.out⟩
 ·have hm1b : (m == 1) = false := by simpa using hm1
  go_enter Tryz.func32, Tryz.ntmps32
  go_wp2_with fail
  refine HTD.out.mono ?_
  rintro e w1 ⟨rfl, hb1⟩
  have HB1 := Lib.hid hb1
  clear hb1 HTD
  unfold lv
  go_wp2_with fail
  go_ret2
  exact ⟨rfl, HB1.out⟩
set_option maxHeartbeats 1000000 in
theorem ce_read_no (o g cap : Nat) (s : St) (ls : List Ln) (line part : Int) (w : World) (hw : WfSt s) (hc : CodeAt w o g cap s ls) (hno : ¬ ReadOk s line part) :
  Calls Tryz.prog 32 #[.pointer (some ⟨o, 0, none⟩), .int .i64 line, .int .i64 part] w (ReadP s line part w) := by
 have hrd : readT s line part = ByteArray.empty ∧ readC s line part = 80 := by unfold readT readC; rw [if_neg hno, if_neg hno]; exact ⟨rfl, rfl⟩
 unfold ReadP
 rw [hrd.1, hrd.2]
 have c0 : w.cell? ⟨o, 0, none⟩ = some (.slice (some ⟨g, 0, none⟩) s.L cap) := hc.cell.cell 0
 have c2 : w.cell? ⟨o, 2, none⟩ = some (.int .i64 s.mode) := hc.cell.cell 2
 have hL := hw.l64
 obtain ⟨m, hm⟩ : ∃ m, s.mode = m := ⟨_, rfl⟩
 obtain ⟨L, hLL⟩ : ∃ L, s.L = L := ⟨_, rfl⟩
 have hcs : line < 0 ∨ (0 ≤ line ∧ (L : Int) ≤ line) ∨ (0 ≤ line ∧ line < (L : Int) ∧ part < 0) ∨ (0 ≤ line ∧ line < (L : Int) ∧ 3 ≤ part) ∨ (0 ≤ line ∧ line < (L : Int) ∧ 0 ≤ part ∧ part < 3 ∧ m = 1 ∧ part ≠ 0) := by
  unfold ReadOk at hno
  rw [hm, hLL] at hno
  by_cases h1 : line < 0
  ·exact Or.inl h1
  ·by_cases h2 : (L : Int) ≤ line
   ·exact Or.inr (Or.inl ⟨by omega, h2⟩)
   ·by_cases h3 : part < 0
    ·exact Or.inr (Or.inr (Or.inl ⟨by omega, by omega, h3⟩))
    ·by_cases h4 : 3 ≤ part
     ·exact Or.inr (Or.inr (Or.inr (Or.inl ⟨by omega, by omega, h4⟩)))
     ·refine Or.inr (Or.inr (Or.inr (Or.inr ⟨by omega, by omega, by omega, by omega, ?_⟩)))
      by_cases h5 : m = 1 ∧ part ≠ 0
      ·exact h5
      ·exact absurd ⟨by omega, by omega, by omega, by omega, h5⟩ hno
 rw [hm] at c2
 rw [hLL] at c0 hL
 clear hrd hno hc hw hm hLL
 rcases hcs with h1 | ⟨h1, h2⟩ | ⟨h1, h2, h3⟩ | ⟨h1, h2, h3⟩ | ⟨h1, h2, h3, h4, h5, h6⟩
 ·go_enter Tryz.func32, Tryz.ntmps32
  go_wp2_with fail
  go_ret2
  exact ⟨rfl, Below.refl _ _⟩
 ·go_enter Tryz.func32, Tryz.ntmps32
  go_wp2_with fail
  go_ret2
  exact ⟨rfl, Below.refl _ _⟩
 ·go_enter Tryz.func32, Tryz.ntmps32
  go_wp2_with fail
  go_ret2
  exact ⟨rfl, Below.refl _ _⟩
 ·go_enter Tryz.func32, Tryz.ntmps32
  go_wp2_with fail
  go_ret2
  exact ⟨rfl, Below.refl _ _⟩
 ·subst h5
  have h6b : (part != 0) = true := by simpa using h6
  go_enter Tryz.func32, Tryz.ntmps32
  go_wp2_with fail
  go_ret2
  exact ⟨rfl, Below.refl _ _⟩
/- The code's cell, by contract: all that the laws of layer 8 ask of it. -/
def CellAt (w : World) (o : Nat) (F : Nat → Prop) (s : St) : Prop := ∃ g cap ls, F = FF o g ∧ CodeAt w o g cap s ls
theorem CellAt.lt {w : World} {o : Nat} {F : Nat → Prop} {s : St} (h : CellAt w o F s) : ∀ k, F k → k < w.heap.size := by
 obtain ⟨g, cap, ls, rfl, hc⟩ := h
 intro k hk
 have hl := hc.lt
 rcases hk with rfl | rfl
 ·exact hl.1
 ·exact hl.2
theorem CellAt.keep {w w' : World} {o : Nat} {F : Nat → Prop} {s : St} (h : CellAt w o F s) (hk : ∀ k, F k → w'.heap[k]? = w.heap[k]?) : CellAt w' o F s := by
 obtain ⟨g, cap, ls, rfl, hc⟩ := h
 refine ⟨g, cap, ls, rfl, hc.ne, hc.pos, ?_, hc.rows.keep (hk g (Or.inr rfl)), hc.abs⟩
 have h1 := hc.cell
 unfold Blk at *
 rw [hk o (Or.inl rfl)]; exact h1
def ActT (o : Nat) (F : Nat → Prop) (s' : St) (v : Value) (w : World) (e : Ending) (w' : World) : Prop := e = .returned v ∧ (∃ F', CellAt w' o F' s' ∧ Grows F F' w) ∧ Only F w w'
theorem ActR.act {o g cap : Nat} {s' : St} {v : Value} {w : World} {e : Ending} {w' : World} (h : ActR o g cap s' v w e w') : ActT o (FF o g) s' v w e w' := by
 obtain ⟨h1, ⟨ls, h2⟩, h3⟩ := h
 exact ⟨h1, ⟨FF o g, ⟨g, cap, ls, rfl, h2⟩, fun k hk => Or.inl hk⟩, h3⟩
theorem ce_new (l y : Int) (w : World) : Calls Tryz.prog 24 #[.int .i64 l, .int .i64 y] w fun e w' =>
  (NewOk l y → ∃ o F, e = .returned (.tuple #[.pointer (some ⟨o, 0, none⟩), .int .i64 0]) ∧ CellAt w' o F (newSt l.toNat y.toNat) ∧ (∀ k, F k → w.heap.size ≤ k))
  ∧ (¬ NewOk l y → e = .returned (.tuple #[.pointer none, .int .i64 60])) ∧ Below w.heap.size w w' := by
 refine (ce_new0 l y w).mono ?_
 rintro e w' ⟨h1, h2, h3⟩
 refine ⟨fun h => ?_, h2, h3⟩
 obtain ⟨o, g, cap, ls, rfl, hc, ho, hg⟩ := h1 h
 refine ⟨o, FF o g, rfl, ⟨g, cap, ls, rfl, hc⟩, fun k hk => ?_⟩
 rcases hk with rfl | rfl
 ·exact ho
 ·exact hg
theorem ce_prog (o : Nat) (F : Nat → Prop) (s : St) (line : Int) (p : ByteArray) (x k a b : Int) (w : World) (hw : WfSt s) (hc : CellAt w o F s) (hp : p.size ≤ 400) :
  Calls Tryz.prog 42 #[.pointer (some ⟨o, 0, none⟩), .int .i64 line, .string p, .agg (fv x k a b)] w (ActT o F (progSt s line p k a b) (.int .i64 (progC s line p k)) w) := by
 obtain ⟨g, cap, ls, rfl, hc⟩ := hc
 exact (ce_program o g cap s ls line p x k a b w hw hc hp).mono fun _ _ h => h.act
theorem ce_erase (o : Nat) (F : Nat → Prop) (s : St) (x k a b : Int) (w : World) (hw : WfSt s) (hc : CellAt w o F s) (h1 : s.slc < 1000000000) (h2 : s.tlc < 1000000000) :
  Calls Tryz.prog 53 #[.pointer (some ⟨o, 0, none⟩), .agg (fv x k a b)] w (ActT o F (eraseSt s k a b) (.int .i64 (eraseC s k)) w) := by
 obtain ⟨g, cap, ls, rfl, hc⟩ := hc
 exact (ce_erase0 o g cap s ls x k a b w hw hc h1 h2).mono fun _ _ h => h.act
theorem ce_read (o : Nat) (F : Nat → Prop) (s : St) (line part : Int) (w : World) (hw : WfSt s) (hc : CellAt w o F s) :
  Calls Tryz.prog 32 #[.pointer (some ⟨o, 0, none⟩), .int .i64 line, .int .i64 part] w (ReadP s line part w) := by
 obtain ⟨g, cap, ls, rfl, hc⟩ := hc
 by_cases h : ReadOk s line part
 ·exact ce_read_yes o g cap s ls line part w hw hc h
 ·exact ce_read_no o g cap s ls line part w hw hc h
theorem ce_mode (o : Nat) (F : Nat → Prop) (s : St) (w : World) (_hw : WfSt s) (hc : CellAt w o F s) : Calls Tryz.prog 101 #[.pointer (some ⟨o, 0, none⟩)] w fun e w' => e = .returned (.int .i64 s.mode) ∧ w = w' := by
 obtain ⟨g, cap, ls, rfl, hc⟩ := hc
 exact ce_mode0 o _ w s.mode hc.cell rfl
theorem ce_bad (o : Nat) (F : Nat → Prop) (s : St) (w : World) (_hw : WfSt s) (hc : CellAt w o F s) : Calls Tryz.prog 100 #[.pointer (some ⟨o, 0, none⟩)] w fun e w' => e = .returned (.bool s.bad) ∧ w = w' := by
 obtain ⟨g, cap, ls, rfl, hc⟩ := hc
 exact ce_bad0 o _ w s.bad hc.cell rfl
theorem ce_counts (o : Nat) (F : Nat → Prop) (s : St) (w : World) (_hw : WfSt s) (hc : CellAt w o F s) : Calls Tryz.prog 99 #[.pointer (some ⟨o, 0, none⟩)] w fun e w' => e = .returned (.tuple #[.int .i64 s.slc, .int .i64 s.tlc]) ∧ Below w.heap.size w w' := by
 obtain ⟨g, cap, ls, rfl, hc⟩ := hc
 exact ce_counts0 o _ w s.slc s.tlc hc.cell rfl rfl
theorem ce_copy (o : Nat) (F : Nat → Prop) (s : St) (w : World) (hw : WfSt s) (hc : CellAt w o F s) : Calls Tryz.prog 54 #[.pointer (some ⟨o, 0, none⟩)] w fun e w' => ∃ o2 F2, e = .returned (.pointer (some ⟨o2, 0, none⟩)) ∧ CellAt w' o2 F2 s ∧ (∀ k, F2 k → w.heap.size ≤ k) ∧ Below w.heap.size w w' := by
 obtain ⟨g, cap, ls, rfl, hc⟩ := hc
 refine (ce_copy0 o g cap s ls w hw hc).mono ?_
 rintro e w' ⟨o2, g2, cap2, rfl, h1, h2, h3, h4⟩
 refine ⟨o2, FF o2 g2, rfl, ⟨g2, cap2, ls, rfl, h1⟩, fun k hk => ?_, h4⟩
 rcases hk with rfl | rfl
 ·exact h2
 ·exact h3
/- Layer 8, the laws: alike, short. -/
theorem CellAt.below {w w' : World} {o B : Nat} {F : Nat → Prop} {s : St} (h : CellAt w o F s) (hb : Below B w w') (hF : ∀ k, F k → k < B) : CellAt w' o F s := h.keep fun k hk => hb.block k (hF k hk)
/- Layer 8, the laws: short; acts. -/
structure ActS where
 kd : Int
 ln : Int
 pt : Int
 p : ByteArray
 q : ByteArray
 r : ByteArray
 x : Int
 k : Int
 a : Int
 b : Int
theorem endSt_counts (s : St) (k : Int) : (endSt s k).slc = s.slc ∧ (endSt s k).tlc = s.tlc := by
 unfold endSt
 split
 ·exact ⟨rfl, rfl⟩
 ·split <;> exact ⟨rfl, rfl⟩
theorem ruinTo_counts (s t : St) (a b k : Int) : ∀ n, (ruinTo s t a b k n).slc = t.slc ∧ (ruinTo s t a b k n).tlc = t.tlc
 | 0 => ⟨rfl, rfl⟩
 | n + 1 => ruinTo_counts s t a b k n
theorem moreSt_counts (s : St) : (moreSt s).slc ≤ s.slc + 1 ∧ (moreSt s).tlc ≤ s.tlc + 1 := by
 unfold moreSt
 split
 ·exact ⟨Nat.le_succ _, Nat.le_refl _⟩
 ·exact ⟨Nat.le_refl _, Nat.le_succ _⟩
theorem eraseSt_counts (s : St) (k a b : Int) : (eraseSt s k a b).slc ≤ s.slc + 1 ∧ (eraseSt s k a b).tlc ≤ s.tlc + 1 := by
 have hm := moreSt_counts s
 unfold eraseSt
 split
 ·exact ⟨Nat.le_succ _, Nat.le_succ _⟩
 ·split
  ·rw [(endSt_counts _ k).1, (endSt_counts _ k).2]
   have hr := ruinTo_counts (moreSt s) (moreSt s) a b k (3 * s.L)
   unfold slcSt
   split
   ·show (ruinTo _ _ _ _ _ _).slc ≤ _ ∧ (ruinTo _ _ _ _ _ _).tlc ≤ _
    rw [hr.1, hr.2]; exact hm
   ·rw [hr.1, hr.2]; exact hm
  ·exact hm
theorem progSt_counts (s : St) (line : Int) (p : ByteArray) (k a b : Int) : (progSt s line p k a b).slc = s.slc ∧ (progSt s line p k a b).tlc = s.tlc := by
 unfold progSt
 split
 ·exact endSt_counts _ k
 ·exact ⟨rfl, rfl⟩
theorem twoSt_counts (s : St) (line : Int) (p q r : ByteArray) (f : Bool) (k a b : Int) : (twoSt s line p q r f k a b).slc = s.slc ∧ (twoSt s line p q r f k a b).tlc = s.tlc := by
 unfold twoSt
 split
 ·exact endSt_counts _ k
 ·exact ⟨rfl, rfl⟩
structure PL (w0 : World) (F0 : Nat → Prop) (o : Nat) (n0 : Nat) (s : St) (F : Nat → Prop) (g c h d : Nat) (w : World) : Prop where
 wf : WfSt s
 cell : CellAt w o F s
 rd : RAt w s g c h d
 box : Blk w w0.heap.size (cv s g c h d) 66
 ng : ¬ F g
 nh : ¬ F h
 nb : ¬ F w0.heap.size
 gne : g ≠ w0.heap.size
 hne : h ≠ w0.heap.size
 grow : Grows F0 F w0
 only : Only F0 w0 w
 top : w0.heap.size < w.heap.size
 s1 : s.slc ≤ n0
 s2 : s.tlc ≤ n0
theorem PL.after {w0 w w' : World} {F0 F : Nat → Prop} {o n0 g c h d : Nat} {s : St} (hp : PL w0 F0 o n0 s F g c h d w) (hb : Below w.heap.size w w') : PL w0 F0 o n0 s F g c h d w' :=
 ⟨hp.wf, hp.cell.below hb hp.cell.lt, hp.rd.after hp.wf hb, hp.box.after hb, hp.ng, hp.nh, hp.nb, hp.gne, hp.hne, hp.grow, hp.only.trans (Only.of_below (F := F0) hb) (fun _ hk => Or.inl hk), Nat.lt_of_lt_of_le hp.top hb.size, hp.s1, hp.s2⟩
theorem PL.next {w0 w : World} {F0 F : Nat → Prop} {o n0 g c h d : Nat} {s : St} (hp : PL w0 F0 o n0 s F g c h d w) : PL w0 F0 o (n0 + 1) s F g c h d w :=
 ⟨hp.wf, hp.cell, hp.rd, hp.box, hp.ng, hp.nh, hp.nb, hp.gne, hp.hne, hp.grow, hp.only, hp.top, by have := hp.s1; omega, by have := hp.s2; omega⟩
theorem Only.put {F : Nat → Prop} {w w' : World} (h : Only F w w') (R : Nat) (hR : w.heap.size ≤ R) (cs : Array Value) : Only F w (w'.setRow R cs) :=
 ⟨h.os, h.tape, h.output, by rw [size_setRow]; exact h.size, fun k hk hn => (setRow_heap_ne _ _ _ _ (by omega)).trans (h.block k hk hn)⟩
theorem PL.step {w0 w2 w3 w4 : World} {F0 F F' : Nat → Prop} {o n0 g c h d g2 c2 h2 d2 : Nat} {s t : St} (hp : PL w0 F0 o n0 s F g c h d w2) (hc : CellAt w3 o F' t) (hgr : Grows F F' w2) (ho : Only F w2 w3)
  (hb : Below w3.heap.size w3 w4) (hr : RAt w4 t g2 c2 h2 d2) (hgh : (g2 = g ∧ h2 = h) ∨ (w3.heap.size ≤ g2 ∧ w3.heap.size ≤ h2)) (hw : WfSt t) (hs1 : t.slc ≤ s.slc + 1) (hs2 : t.tlc ≤ s.tlc + 1) :
  PL w0 F0 o (n0 + 1) t F' g2 c2 h2 d2 (w4.setRow w0.heap.size (cv t g2 c2 h2 d2)) := by
 have hlt := hp.rd.lt hp.wf
 have htop := hp.top
 have hs3 := ho.size
 have hs4 := hb.size
 have hcl := hc.lt
 have hnb : ¬ F' w0.heap.size := fun hf => (hgr _ hf).elim hp.nb (fun h1 => by omega)
 have hgne : g2 ≠ w0.heap.size ∧ h2 ≠ w0.heap.size := by
  rcases hgh with ⟨rfl, rfl⟩ | ⟨h1, h2'⟩
  ·exact ⟨hp.gne, hp.hne⟩
  ·exact ⟨by omega, by omega⟩
 have hng : ¬ F' g2 := by
  rcases hgh with ⟨rfl, rfl⟩ | ⟨h1, h2'⟩
  ·exact fun hf => (hgr _ hf).elim hp.ng (fun h1 => by omega)
  ·exact fun hf => by have := hcl _ hf; omega
 have hnh : ¬ F' h2 := by
  rcases hgh with ⟨rfl, rfl⟩ | ⟨h1, h2'⟩
  ·exact fun hf => (hgr _ hf).elim hp.nh (fun h1 => by omega)
  ·exact fun hf => by have := hcl _ hf; omega
 have hbox : Blk w4 w0.heap.size (cv s g c h d) 66 := (hp.box.only ho hp.nb).after hb
 refine ⟨hw, ?_, hr.keep (setRow_heap_ne _ _ _ _ (by omega)) (setRow_heap_ne _ _ _ _ (by omega)), hbox.put _, hng, hnh, hnb, hgne.1, hgne.2, ?_, ?_, by rw [size_setRow]; omega, by have := hp.s1; omega, by have := hp.s2; omega⟩
 ·exact (hc.below hb hcl).keep fun k hk => setRow_heap_ne _ _ _ _ (fun he => hnb (by rw [he]; exact hk))
 ·intro k hk
  rcases hgr k hk with h1 | h1
  ·exact hp.grow k h1
  ·exact Or.inr (by omega)
 ·exact Only.put ((hp.only.trans ho hp.grow).trans (Only.of_below (F := F0) hb) (fun _ hk => Or.inl hk)) _ (Nat.le_refl _) _
/- A chip's states: what can be goes on to be. No program in this text but the reference's cell. -/
theorem opSt_wf {s : St} (h : WfSt s) (op line : Int) (p q r : ByteArray) (f : Fa) (h1 : s.slc < 1000000000) (h2 : s.tlc < 1000000000) : WfSt (opSt s op line p q r f) := by
 unfold opSt
 split
 ·exact progSt_wf h _ _ _ _ _
 ·split
  ·exact twoSt_wf h _ _ _ _ _ _ _ _
  ·split
   ·exact twoSt_wf h _ _ _ _ _ _ _ _
   ·exact eraseSt_wf h _ _ _ h1 h2
theorem opSt_counts (s : St) (op line : Int) (p q r : ByteArray) (f : Fa) : (opSt s op line p q r f).slc ≤ s.slc + 1 ∧ (opSt s op line p q r f).tlc ≤ s.tlc + 1 := by
 unfold opSt
 split
 ·rw [(progSt_counts _ _ _ _ _ _).1, (progSt_counts _ _ _ _ _ _).2]; omega
 ·split
  ·rw [(twoSt_counts _ _ _ _ _ _ _ _ _).1, (twoSt_counts _ _ _ _ _ _ _ _ _).2]; omega
  ·split
   ·rw [(twoSt_counts _ _ _ _ _ _ _ _ _).1, (twoSt_counts _ _ _ _ _ _ _ _ _).2]; omega
   ·exact eraseSt_counts _ _ _ _
theorem endCh_same (c : ChS) (e : Int) : (endCh c e).cs = c.cs ∧ (endCh c e).fs = c.fs ∧ (endCh c e).ops = c.ops ∧ (endCh c e).G = c.G ∧ (endCh c e).rej ≤ c.rej + 1 ∧ (endCh c e).cuts ≤ c.cuts + 1 := by
 unfold endCh
 split
 ·exact ⟨rfl, rfl, rfl, rfl, Nat.le_refl _, Nat.le_succ _⟩
 ·split
  ·exact ⟨rfl, rfl, rfl, rfl, Nat.le_succ _, Nat.le_refl _⟩
  ·exact ⟨rfl, rfl, rfl, rfl, Nat.le_succ _, Nat.le_succ _⟩
theorem WfCh.next {n : Nat} {c : ChS} (h : WfCh n c) : WfCh (n + 1) c := by
 obtain ⟨h1, h2, h3, h4, h5, h6⟩ := h
 exact ⟨fun s hs => ⟨(h1 s hs).1, by have := (h1 s hs).2.1; omega, by have := (h1 s hs).2.2; omega⟩, by omega, by omega, by omega, h5, h6⟩
theorem WfCh.ends {n : Nat} {c : ChS} (h : WfCh n c) (e : Int) (s : Nat) (_hs : s = 0 ∨ s = 1) : WfCh (n + 1) (endCh (if s = 0 then opsCh c else calmCh (opsCh c)) e) := by
 obtain ⟨h1, h2, h3, h4, h5, h6⟩ := h
 obtain ⟨e1, e2, e3, _, e5, e6⟩ := endCh_same (if s = 0 then opsCh c else calmCh (opsCh c)) e
 have a1 : (if s = 0 then opsCh c else calmCh (opsCh c)).cs = c.cs := by split <;> rfl
 have a2 : (if s = 0 then opsCh c else calmCh (opsCh c)).fs = c.fs := by split <;> rfl
 have a3 : (if s = 0 then opsCh c else calmCh (opsCh c)).ops = c.ops + 1 := by split <;> rfl
 have a4 : (if s = 0 then opsCh c else calmCh (opsCh c)).rej = c.rej := by split <;> rfl
 have a5 : (if s = 0 then opsCh c else calmCh (opsCh c)).cuts = c.cuts := by split <;> rfl
 refine ⟨fun x hx => ?_, by omega, by omega, by omega, by rw [e1, a1]; exact h5, by rw [e2, a2]; exact h6⟩
 rw [e1, a1] at hx
 exact ⟨(h1 x hx).1, by have := (h1 x hx).2.1; omega, by have := (h1 x hx).2.2; omega⟩
theorem WfCh.setEnds {n : Nat} {c : ChS} (h : WfCh n c) (_hn : n < 1000000000) (i : Nat) (s : St) (e : Int) (hw : WfSt s) (h1' : s.slc ≤ n + 1) (h2' : s.tlc ≤ n + 1) : WfCh (n + 1) (endCh (setCh (opsCh c) i s) e) := by
 obtain ⟨h1, h2, h3, h4, h5, h6⟩ := h
 obtain ⟨e1, e2, e3, _, e5, e6⟩ := endCh_same (setCh (opsCh c) i s) e
 have a4 : (setCh (opsCh c) i s).rej = c.rej := rfl
 have a5 : (setCh (opsCh c) i s).cuts = c.cuts := rfl
 refine ⟨fun x hx => ?_, by rw [e3]; show c.ops + 1 ≤ _; omega, by omega, by omega, by rw [e1]; simpa [setCh, opsCh] using h5, by rw [e2]; exact h6⟩
 rw [e1] at hx
 have hx : x ∈ c.cs.set i s := hx
 rcases List.mem_or_eq_of_mem_set hx with hx | rfl
 ·exact ⟨(h1 x hx).1, by have := (h1 x hx).2.1; omega, by have := (h1 x hx).2.2; omega⟩
 ·exact ⟨hw, h1', h2'⟩
theorem WfCh.of {n : Nat} {c : ChS} (h : WfCh n c) {x : Int} (hx : chHas c x) : WfSt (cellOf c x) ∧ (cellOf c x).slc ≤ n ∧ (cellOf c x).tlc ≤ n := by
 have hi : x.toNat < c.cs.length := by have := hx.1; have := hx.2; omega
 have e : cellOf c x = c.cs[x.toNat] := by unfold cellOf; rw [List.getD_eq_getElem?_getD, List.getElem?_eq_getElem hi]; rfl
 rw [e]
 exact h.cells _ (List.getElem_mem hi)
theorem doSt_wf {n : Nat} {c : ChS} (h : WfCh n c) (hn : n < 1000000000) (op block line : Int) (p q r : ByteArray) : WfCh (n + 1) (doSt c op block line p q r) := by
 unfold doSt
 split
 ·exact h.next
 ·split
  ·rename_i hx
   have hw := h.of hx
   have hc := opSt_counts (cellOf c block) op line p q r (howF c op)
   exact h.setEnds hn _ _ _ (opSt_wf hw.1 op line p q r _ (by omega) (by omega)) (by omega) (by omega)
  ·exact h.ends 80 0 (Or.inl rfl)
theorem rdSt_wf {n : Nat} {c : ChS} (h : WfCh n c) (block line part : Int) : WfCh (n + 1) (rdSt c block line part) := by
 unfold rdSt
 split
 ·exact h.next
 ·split
  ·split
   ·exact h.ends 82 0 (Or.inl rfl)
   ·exact h.ends 0 1 (Or.inr rfl)
  ·exact h.ends 80 0 (Or.inl rfl)
/- Faults that rise: those of one number. No program in this text but what reads slices of faults. -/
/-! ### faults that rise: those of one number -/
def belowN (R : List Fa) (t : Int) : Nat := R.countP fun x => decide (x.1 < t)
theorem belowN_le (R : List Fa) (t : Int) : belowN R t ≤ R.length := List.countP_le_length
theorem belowN_take {R : List Fa} (h : Srt R) (t : Int) : (∀ x ∈ R.take (belowN R t), x.1 < t) ∧ (∀ x ∈ R.drop (belowN R t), t ≤ x.1) := by
 unfold belowN
 induction R with
 | nil => exact ⟨fun x hx => by simp at hx, fun x hx => by simp at hx⟩
 | cons a r ih =>
  have hs := List.pairwise_cons.1 h
  have ih2 := ih hs.2
  by_cases ha : a.1 < t
  ·rw [List.countP_cons_of_pos (by simpa using ha)]
   refine ⟨fun x hx => ?_, fun x hx => ?_⟩
   ·rw [List.take_succ_cons] at hx
    rcases List.mem_cons.1 hx with rfl | hx
    ·exact ha
    ·exact ih2.1 x hx
   ·rw [List.drop_succ_cons] at hx
    exact ih2.2 x hx
  ·rw [List.countP_cons_of_neg (by simpa using ha)]
   have h0 : r.countP (fun x => decide (x.1 < t)) = 0 := by
    rw [List.countP_eq_zero]
    intro x hx
    have := hs.1 x hx
    simp; omega
   rw [h0]
   refine ⟨fun x hx => by simp at hx, fun x hx => ?_⟩
   rw [List.drop_zero] at hx
   rcases List.mem_cons.1 hx with rfl | hx
   ·omega
   ·have := hs.1 x hx; omega
theorem meet_none {R : List Fa} {t op : Int} (h : ∀ x ∈ R, x.1 ≠ t) : meetF R t op = none := by
 unfold meetF
 rw [List.find?_eq_none]
 intro x hx
 unfold hitB
 simp [h x hx]
theorem meet_app (A B : List Fa) (t op : Int) : meetF (A ++ B) t op = (meetF A t op).or (meetF B t op) := by
 unfold meetF; rw [List.find?_append]
theorem meet_drop {R : List Fa} (h : Srt R) (t u op : Int) (hu : t ≤ u) : meetF (R.drop (belowN R t)) u op = meetF R u op := by
 have hb := belowN_take h t
 have e := List.take_append_drop (belowN R t) R
 have : meetF R u op = meetF (R.take (belowN R t) ++ R.drop (belowN R t)) u op := by rw [e]
 rw [this, meet_app, meet_none (R := R.take (belowN R t)) (fun x hx e => by have := hb.1 x hx; omega)]
 rfl
theorem Srt.drop {R : List Fa} (h : Srt R) (n : Nat) : Srt (R.drop n) := List.Pairwise.sublist (List.drop_sublist n R) h
theorem meet_take {R : List Fa} (h : Srt R) (t op : Int) : meetF (R.take (belowN R (t + 1))) t op = meetF R t op := by
 have hb := belowN_take h (t + 1)
 have e := List.take_append_drop (belowN R (t + 1)) R
 have h2 : meetF R t op = meetF (R.take (belowN R (t + 1)) ++ R.drop (belowN R (t + 1))) t op := by rw [e]
 rw [h2, meet_app, meet_none (R := R.drop (belowN R (t + 1))) (fun x hx e => by have := hb.2 x hx; omega)]
 cases meetF (R.take (belowN R (t + 1))) t op <;> rfl
theorem meet_stable {l L : List Fa} (h : StbF l L) (t op : Int) : meetF L t op = meetF l t op := by
 have e : ∀ l : List Fa, meetF l t op = (l.filter (fun x => x.1 == t)).find? (fun x => fitsB x.2.1 op) := by
  intro l
  unfold meetF hitB
  rw [List.find?_filter]
  congr 1
  funext x
  by_cases h : x.1 = t <;> simp [h]
 rw [e, e, h t]
/- The code's chip: where it lies, what of it turns. -/
def cch (c : ChS) (gc kc : Nat) (oa : Option Addr) (m ka : Nat) (x y : Int) : Array Value :=
 #[.int .i64 c.G.b, .int .i64 c.G.l, .int .i64 c.G.y, .int .i64 c.G.n, .int .i64 c.G.s, .int .i64 c.G.r, .slice (some ⟨gc, 0, none⟩) c.cs.length kc, .slice oa m ka, .int .i64 c.ops, .int .i64 c.cuts, .int .i64 c.rej, .bool c.off, .bool c.shk, .int .i64 x, .int .i64 y]
def FP (o gc n : Nat) (Fc : Nat → Nat → Prop) (k : Nat) : Prop := k = o ∨ k = gc ∨ ∃ i, i < n ∧ Fc i k
def FsApart (w : World) (oa : Option Addr) (R : List Fa) (N : Nat → Prop) : Prop := R ≠ [] → ∃ b off, oa = some ⟨b, off, none⟩ ∧ b < w.heap.size ∧ ¬ N b ∧ ∀ i (hi : i < R.length), w.rangeAt b (off + i * 4) (encF R[i])
theorem FsApart.at {w : World} {oa : Option Addr} {R : List Fa} {N : Nat → Prop} (h : FsApart w oa R N) : FsAt w oa R := fun hr => by
 obtain ⟨b, off, h1, h2, _, h4⟩ := h hr
 exact ⟨b, off, h1, h2, h4⟩
structure ChipAt (w : World) (o gc kc : Nat) (oa : Option Addr) (R : List Fa) (ka : Nat) (x y : Int) (po : Nat → Nat) (Fc : Nat → Nat → Prop) (c : ChS) : Prop where
 blk : Blk w o (cch c gc kc oa R.length ka x y) 92
 row : ∀ i, i < c.cs.length → w.cell? ⟨gc, i, none⟩ = some (.pointer (some ⟨po i, 0, none⟩))
 gcl : gc < w.heap.size
 cell : ∀ i (hi : i < c.cs.length), CellAt w (po i) (Fc i) c.cs[i]
 one : o ≠ gc
 oc : ∀ i, i < c.cs.length → ¬ Fc i o ∧ ¬ Fc i gc
 apart : ∀ i j k, i < c.cs.length → j < c.cs.length → i ≠ j → Fc i k → ¬ Fc j k
 fs : FsApart w oa R (FP o gc c.cs.length Fc)
 srt : Srt R
 len : R.length ≤ 4398046510976
 cap : R.length ≤ ka
 same : ∀ (t : Int) (op : Int), (c.ops : Int) ≤ t → meetF R t op = meetF c.fs t op
 shake : c.shk = true → x = c.a ∧ y = c.b
def FC (o gc n : Nat) (Fc : Nat → Nat → Prop) (oa : Option Addr) (R : List Fa) (k : Nat) : Prop := FP o gc n Fc k ∨ (R ≠ [] ∧ ∃ a, oa = some a ∧ k = a.block)
theorem ChipAt.lt {w : World} {o gc kc : Nat} {oa : Option Addr} {R : List Fa} {ka : Nat} {x y : Int} {po : Nat → Nat} {Fc : Nat → Nat → Prop} {c : ChS} (h : ChipAt w o gc kc oa R ka x y po Fc c) : ∀ k, FC o gc c.cs.length Fc oa R k → k < w.heap.size := by
 rintro k ((rfl | rfl | ⟨i, hi, hk⟩) | ⟨hr, a, ha, rfl⟩)
 ·exact h.blk.lt
 ·exact h.gcl
 ·exact (h.cell i hi).lt k hk
 ·obtain ⟨b, off, h1, h2, _, _⟩ := h.fs hr
  rw [ha] at h1
  obtain rfl := Option.some.inj h1
  exact h2
theorem cell_of_heap {w w' : World} {g : Nat} (h : w'.heap[g]? = w.heap[g]?) (i : Nat) : w'.cell? ⟨g, i, none⟩ = w.cell? ⟨g, i, none⟩ := by simp only [World.cell?, h]
theorem size_of_keep {w w' : World} {g : Nat} (hg : g < w.heap.size) (h : w'.heap[g]? = w.heap[g]?) : g < w'.heap.size := by
 rw [Array.getElem?_eq_getElem hg] at h
 exact (Array.getElem?_eq_some_iff.1 h).1
theorem FsApart.keep {w w' : World} {oa : Option Addr} {R : List Fa} {N : Nat → Prop} (h : FsApart w oa R N) (hk : ∀ k, (R ≠ [] ∧ ∃ a, oa = some a ∧ k = a.block) → w'.heap[k]? = w.heap[k]?) : FsApart w' oa R N := fun hr => by
 obtain ⟨b, off, h1, h2, h3, h4⟩ := h hr
 have hb := hk b ⟨hr, _, h1, rfl⟩
 exact ⟨b, off, h1, size_of_keep h2 hb, h3, fun i hi j v hv => by rw [cell_of_heap hb]; exact h4 i hi j v hv⟩
theorem ChipAt.keep {w w' : World} {o gc kc : Nat} {oa : Option Addr} {R : List Fa} {ka : Nat} {x y : Int} {po : Nat → Nat} {Fc : Nat → Nat → Prop} {c : ChS} (h : ChipAt w o gc kc oa R ka x y po Fc c)
  (hk : ∀ k, FC o gc c.cs.length Fc oa R k → w'.heap[k]? = w.heap[k]?) : ChipAt w' o gc kc oa R ka x y po Fc c := by
 have hg := hk gc (Or.inl (Or.inr (Or.inl rfl)))
 refine ⟨?_, fun i hi => ?_, size_of_keep h.gcl hg, fun i hi => (h.cell i hi).keep fun k hf => hk k (Or.inl (Or.inr (Or.inr ⟨i, hi, hf⟩))), h.one, h.oc, h.apart, h.fs.keep fun k hf => hk k (Or.inr hf), h.srt, h.len, h.cap, h.same, h.shake⟩
 ·have h1 := h.blk
  unfold Blk at *
  rw [hk o (Or.inl (Or.inl rfl))]; exact h1
 ·rw [cell_of_heap hg]; exact h.row i hi
theorem ChipAt.after {w w' : World} {o gc kc : Nat} {oa : Option Addr} {R : List Fa} {ka : Nat} {x y : Int} {po : Nat → Nat} {Fc : Nat → Nat → Prop} {c : ChS} (h : ChipAt w o gc kc oa R ka x y po Fc c) (hb : Below w.heap.size w w') : ChipAt w' o gc kc oa R ka x y po Fc c :=
 h.keep fun k hk => hb.block k (h.lt k hk)
def ChAt (w : World) (o : Nat) (F : Nat → Prop) (c : ChS) : Prop := ∃ gc kc oa R ka x y po Fc, F = FC o gc c.cs.length Fc oa R ∧ ChipAt w o gc kc oa R ka x y po Fc c
theorem ChAt.lt {w : World} {o : Nat} {F : Nat → Prop} {c : ChS} (h : ChAt w o F c) : ∀ k, F k → k < w.heap.size := by
 obtain ⟨gc, kc, oa, R, ka, x, y, po, Fc, rfl, h⟩ := h
 exact h.lt
theorem ChAt.keep {w w' : World} {o : Nat} {F : Nat → Prop} {c : ChS} (h : ChAt w o F c) (hk : ∀ k, F k → w'.heap[k]? = w.heap[k]?) : ChAt w' o F c := by
 obtain ⟨gc, kc, oa, R, ka, x, y, po, Fc, rfl, h⟩ := h
 exact ⟨gc, kc, oa, R, ka, x, y, po, Fc, rfl, h.keep hk⟩
theorem ChAt.after {w w' : World} {o : Nat} {F : Nat → Prop} {c : ChS} (h : ChAt w o F c) (hb : Below w.heap.size w w') : ChAt w' o F c := h.keep fun k hk => hb.block k (h.lt k hk)
theorem ChAt.only {G : Nat → Prop} {w w' : World} {o : Nat} {F : Nat → Prop} {c : ChS} (h : ChAt w o F c) (ho : Only G w w') (hg : ∀ k, F k → ¬ G k) : ChAt w' o F c := h.keep fun k hk => ho.block k (h.lt k hk) (hg k hk)
def OpT (o : Nat) (F : Nat → Prop) (c' : ChS) (v : Value) (w : World) (e : Ending) (w' : World) : Prop := e = .returned v ∧ (∃ F', ChAt w' o F' c' ∧ Grows F F' w) ∧ Only F w w'
theorem ChipAt.setCell {w w' : World} {o gc kc : Nat} {oa : Option Addr} {R : List Fa} {ka : Nat} {x y : Int} {po : Nat → Nat} {Fc : Nat → Nat → Prop} {c : ChS} (h : ChipAt w o gc kc oa R ka x y po Fc c) (i : Nat) (hi : i < c.cs.length) (s : St) (F' : Nat → Prop)
  (hc : CellAt w' (po i) F' s) (hg : Grows (Fc i) F' w) (ho : Only (Fc i) w w') : ChipAt w' o gc kc oa R ka x y po (fun j => if j = i then F' else Fc j) (setCh c i s) := by
 have hoo : w'.heap[o]? = w.heap[o]? := ho.block o h.blk.lt (h.oc i hi).1
 have hgg : w'.heap[gc]? = w.heap[gc]? := ho.block gc h.gcl (h.oc i hi).2
 have hlen : (setCh c i s).cs.length = c.cs.length := by simp [setCh]
 have hold : ∀ k, k < w.heap.size → ¬ Fc i k → ¬ F' k := fun k hk hn hf => (hg k hf).elim hn (fun h2 => by omega)
 refine ⟨?_, fun j hj => ?_, size_of_keep h.gcl hgg, fun j hj => ?_, h.one, fun j hj => ?_, fun a b k ha hb hne hk => ?_, ?_, h.srt, h.len, h.cap, h.same, h.shake⟩
 ·have h1 := h.blk
  have e : cch (setCh c i s) gc kc oa R.length ka x y = cch c gc kc oa R.length ka x y := by unfold cch; rw [hlen]; rfl
  rw [e]
  unfold Blk at *
  rw [hoo]; exact h1
 ·rw [cell_of_heap hgg]; exact h.row j (by rw [← hlen]; exact hj)
 ·by_cases e : j = i
  ·subst e
   have e2 : (setCh c j s).cs[j] = s := by simp [setCh]
   rw [e2]; simp only [if_true]; exact hc
  ·have e2 : (setCh c i s).cs[j] = c.cs[j]'(by rw [← hlen]; exact hj) := by simp only [setCh]; rw [List.getElem_set_ne (Ne.symm e)]
   rw [e2]; simp only [e, if_false]
   exact (h.cell j (by rw [← hlen]; exact hj)).keep fun k hk => ho.block k ((h.cell j (by rw [← hlen]; exact hj)).lt k hk) (h.apart j i k (by rw [← hlen]; exact hj) hi e hk)
 ·have hj' : j < c.cs.length := by rw [← hlen]; exact hj
  by_cases e : j = i
  ·subst e
   simp only [if_true]
   exact ⟨hold o h.blk.lt (h.oc j hj').1, hold gc h.gcl (h.oc j hj').2⟩
  ·simp only [e, if_false]; exact h.oc j hj'
 ·have ha' : a < c.cs.length := by rw [← hlen]; exact ha
  have hb' : b < c.cs.length := by rw [← hlen]; exact hb
  by_cases ea : a = i
  ·subst ea
   have eb : b ≠ a := fun e => hne e.symm
   simp only [if_true] at hk
   simp only [eb, if_false]
   intro hf
   exact (hg k hk).elim (fun h2 => h.apart a b k ha' hb' hne h2 hf) (fun h2 => by have := (h.cell b hb').lt k hf; omega)
  ·simp only [ea, if_false] at hk
   by_cases eb : b = i
   ·subst eb
    simp only [if_true]
    exact hold k ((h.cell a ha').lt k hk) (h.apart a b k ha' hb' hne hk)
   ·simp only [eb, if_false]; exact h.apart a b k ha' hb' hne hk
 ·intro hr
  obtain ⟨b, off, h1, h2, h3, h4⟩ := h.fs hr
  have hnb : ¬ Fc i b := fun hf => h3 (Or.inr (Or.inr ⟨i, hi, hf⟩))
  have hb := ho.block b h2 hnb
  refine ⟨b, off, h1, size_of_keep h2 hb, ?_, fun j hj t v hv => by rw [cell_of_heap hb]; exact h4 j hj t v hv⟩
  rintro (e | e | ⟨j, hj, hf⟩)
  ·exact h3 (Or.inl e)
  ·exact h3 (Or.inr (Or.inl e))
  ·rw [hlen] at hj
   by_cases e : j = i
   ·subst e
    simp only [if_true] at hf
    exact hold b h2 hnb hf
   ·simp only [e, if_false] at hf
    exact h3 (Or.inr (Or.inr ⟨j, hj, hf⟩))
theorem ChipAt.setBlk {w w' : World} {o gc kc : Nat} {oa oa' : Option Addr} {R R' : List Fa} {ka ka' : Nat} {x y x' y' : Int} {po : Nat → Nat} {Fc : Nat → Nat → Prop} {c c' : ChS} (h : ChipAt w o gc kc oa R ka x y po Fc c)
  (hb : Blk w' o (cch c' gc kc oa' R'.length ka' x' y') 92) (hk : ∀ k, k < w.heap.size → k ≠ o → w'.heap[k]? = w.heap[k]?) (hc : c'.cs = c.cs)
  (hf : FsApart w oa' R' (FP o gc c.cs.length Fc)) (hs : Srt R') (hl : R'.length ≤ 4398046510976) (hka : R'.length ≤ ka') (hm : ∀ (t : Int) (op : Int), (c'.ops : Int) ≤ t → meetF R' t op = meetF c'.fs t op) (hsh : c'.shk = true → x' = c'.a ∧ y' = c'.b) :
  ChipAt w' o gc kc oa' R' ka' x' y' po Fc c' := by
 obtain ⟨G, cs, fs, ops, cuts, rej, off, shk, a, b⟩ := c
 obtain ⟨G', cs', fs', ops', cuts', rej', off', shk', a', b'⟩ := c'
 simp only at hc
 subst hc
 have hgg := hk gc h.gcl (Ne.symm h.one)
 refine ⟨hb, fun i hi => ?_, size_of_keep h.gcl hgg, fun i hi => (h.cell i hi).keep fun k hf => hk k ((h.cell i hi).lt k hf) (fun e => (h.oc i hi).1 (e ▸ hf)), h.one, h.oc, h.apart, ?_, hs, hl, hka, hm, hsh⟩
 ·rw [cell_of_heap hgg]; exact h.row i hi
 ·intro hr
  obtain ⟨b, off, h1, h2, h3, h4⟩ := hf hr
  have hbb := hk b h2 (fun e => h3 (Or.inl e))
  exact ⟨b, off, h1, size_of_keep h2 hbb, h3, fun j hj t v hv => by rw [cell_of_heap hbb]; exact h4 j hj t v hv⟩
def dropA (oa : Option Addr) (ka n : Nat) : Option Addr := if ka = n then oa else oa.map (·.add (n * 4))
theorem FsApart.drop {w : World} {oa : Option Addr} {R : List Fa} {N : Nat → Prop} (h : FsApart w oa R N) (n : Nat) (ka : Nat) (hka : R.length ≤ ka) : FsApart w (dropA oa ka n) (R.drop n) N := by
 intro hr
 have hn : n < R.length := by
  rcases Nat.lt_or_ge n R.length with h1 | h1
  ·exact h1
  ·exact absurd (List.drop_eq_nil_of_le h1) hr
 have hr' : R ≠ [] := fun e => hr (by rw [e]; simp)
 obtain ⟨b, off, rfl, h2, h3, h4⟩ := h hr'
 refine ⟨b, off + n * 4, by unfold dropA; rw [if_neg (by omega)]; simp [Addr.add], h2, h3, fun i hi => ?_⟩
 have hi' : n + i < R.length := by rw [List.length_drop] at hi; omega
 have := h4 (n + i) hi'
 rw [List.getElem_drop, show off + n * 4 + i * 4 = off + (n + i) * 4 by omega]
 exact this
theorem FsApart.take {w : World} {oa : Option Addr} {R : List Fa} {N : Nat → Prop} (h : FsApart w oa R N) (n : Nat) : FsApart w oa (R.take n) N := by
 intro hr
 have hr' : R ≠ [] := fun e => hr (by rw [e]; simp)
 obtain ⟨b, off, h1, h2, h3, h4⟩ := h hr'
 refine ⟨b, off, h1, h2, h3, fun i hi => ?_⟩
 rw [List.getElem_take]
 exact h4 i (by rw [List.length_take] at hi; omega)
end Go.Proofs.YtalefbmoebobkaaGreatDoor
/- What the library's merge in place leaves, as lists: one row into another, the cut of two rows, the two halves. No program in this text. -/
namespace Go.Proofs.YtalefbmoebobkaaGreatDoor
set_option maxRecDepth 100000
open Go.Sort
theorem cf_lt (x y : Fa) : cfF x y < 0 ↔ x.1 < y.1 := by
 have h := ltF x y
 unfold Go.Proofs.ltOf at h
 exact decide_eq_decide.1 h
structure SyL (a m b : Nat) (d : Array Fa) (A X Y B : List Fa) : Prop where
 h : d.toList = A ++ X ++ Y ++ B
 ea : a = A.length
 em : m = a + X.length
 eb : b = m + Y.length
 sX : Srt X
 sY : Srt Y
def SyE (A X Y B : List Fa) (d : Array Fa) : Prop := ∃ Z, d.toList = A ++ Z ++ B ∧ Srt Z ∧ StbF (X ++ Y) Z
section
variable {a m b : Nat} {d : Array Fa} {A X Y B : List Fa}
theorem SyL.size (s : SyL a m b d A X Y B) : b ≤ d.size := by
 have := arr_size s.h
 have h1 := s.ea; have h2 := s.em; have h3 := s.eb
 simp at this
 omega
theorem SyL.gX (s : SyL a m b d A X Y B) {t : Nat} (ht : t < X.length) : d[a + t]! = X[t] := by
 rw [s.ea, getElem!_def, ← Array.getElem?_toList, s.h, List.append_assoc, List.append_assoc, List.getElem?_append_right (by omega), show A.length + t - A.length = t by omega, List.getElem?_append_left ht, List.getElem?_eq_getElem ht]
theorem SyL.gY (s : SyL a m b d A X Y B) {t : Nat} (ht : t < Y.length) : d[m + t]! = Y[t] := by
 have e : d.toList = (A ++ X) ++ (Y ++ B) := by rw [s.h]; simp
 have l : m + t = (A ++ X).length + t := by rw [s.em, s.ea]; simp
 rw [l, getElem!_def, ← Array.getElem?_toList, e, List.getElem?_append_right (by omega), show (A ++ X).length + t - (A ++ X).length = t by omega, List.getElem?_append_left ht, List.getElem?_eq_getElem ht]
theorem Srt.idx {l : List Fa} (h : Srt l) {i j : Nat} (hij : i ≤ j) (hj : j < l.length) : (l[i]'(by omega)).1 ≤ l[j].1 := by
 rcases Nat.lt_or_ge i j with h1 | h1
 ·exact List.pairwise_iff_getElem.1 h i j (by omega) hj h1
 ·obtain rfl : i = j := by omega
  exact Int.le_refl _
theorem SyL.mX (s : SyL a m b d A X Y B) {i j : Nat} (ha : a ≤ i) (hij : i ≤ j) (hj : j < m) : d[i]!.1 ≤ d[j]!.1 := by
 have h2 := s.em
 have e1 := s.gX (t := i - a) (by omega)
 have e2 := s.gX (t := j - a) (by omega)
 rw [show a + (i - a) = i by omega] at e1
 rw [show a + (j - a) = j by omega] at e2
 rw [e1, e2]
 exact s.sX.idx (by omega) (by omega)
theorem SyL.mY (s : SyL a m b d A X Y B) {i j : Nat} (ha : m ≤ i) (hij : i ≤ j) (hj : j < b) : d[i]!.1 ≤ d[j]!.1 := by
 have h2 := s.eb
 have e1 := s.gY (t := i - m) (by omega)
 have e2 := s.gY (t := j - m) (by omega)
 rw [show m + (i - m) = i by omega] at e1
 rw [show m + (j - m) = j by omega] at e2
 rw [e1, e2]
 exact s.sY.idx (by omega) (by omega)
theorem mem_take {l : List Fa} {q : Nat} {x : Fa} (h : x ∈ l.take q) : ∃ t, ∃ ht : t < l.length, t < q ∧ l[t] = x := by
 obtain ⟨t, ht, e⟩ := List.mem_iff_getElem.1 h
 have h2 : t < q ∧ t < l.length := by rw [List.length_take] at ht; omega
 exact ⟨t, h2.2, h2.1, by rw [← e, List.getElem_take]⟩
theorem mem_drop {l : List Fa} {q : Nat} {x : Fa} (h : x ∈ l.drop q) : ∃ t, ∃ ht : t < l.length, q ≤ t ∧ l[t] = x := by
 obtain ⟨t, ht, e⟩ := List.mem_iff_getElem.1 h
 rw [List.length_drop] at ht
 exact ⟨q + t, by omega, by omega, by rw [← e, List.getElem_drop]⟩
theorem SyL.cut (s : SyL a m b d A X Y B) {p e : Nat} (hp : a ≤ p) (hp2 : p ≤ m) (he : m ≤ e) (he2 : e ≤ b)
  (h21 : ∀ i j, p ≤ i → i < m → m ≤ j → j < e → d[j]!.1 < d[i]!.1) (h12 : ∀ i j, a ≤ i → i < p → e ≤ j → j < b → d[i]!.1 ≤ d[j]!.1) :
  ∃ X1 X2 Y1 Y2, X = X1 ++ X2 ∧ Y = Y1 ++ Y2 ∧ X1.length = p - a ∧ X2.length = m - p ∧ Y1.length = e - m ∧ Y2.length = b - e ∧
   (∀ y ∈ Y1, ∀ x ∈ X2, y.1 < x.1) ∧ (∀ x ∈ X1, ∀ y ∈ Y2, x.1 ≤ y.1) := by
 have h1 := s.ea; have h2 := s.em; have h3 := s.eb
 refine ⟨X.take (p - a), X.drop (p - a), Y.take (e - m), Y.drop (e - m), by simp, by simp, by rw [List.length_take]; omega, by rw [List.length_drop]; omega, by rw [List.length_take]; omega, by rw [List.length_drop]; omega, ?_, ?_⟩
 ·intro y hy x hx
  obtain ⟨t, ht, ht2, rfl⟩ := mem_take hy
  obtain ⟨u, hu, hu2, rfl⟩ := mem_drop hx
  rw [← s.gY ht, ← s.gX hu]
  exact h21 _ _ (by omega) (by omega) (by omega) (by omega)
 ·intro x hx y hy
  obtain ⟨t, ht, ht2, rfl⟩ := mem_take hx
  obtain ⟨u, hu, hu2, rfl⟩ := mem_drop hy
  rw [← s.gX ht, ← s.gY hu]
  exact h12 _ _ (by omega) (by omega) (by omega) (by omega)
theorem SyL.found (s : SyL a m b d A X Y B) {p s0 r0 mid : Nat} (ham : a < m) (hmb : m < b) (hmid : mid = (a + b) / 2)
  (hc : m > mid ∧ s0 = mid + m - b ∧ r0 = mid ∨ ¬ m > mid ∧ s0 = a ∧ r0 = m) (hp : s0 ≤ p) (hp2 : p ≤ r0)
  (lo : s0 < p → d[p - 1]!.1 ≤ d[mid + m - p]!.1) (hi : p < r0 → d[mid + m - 1 - p]!.1 < d[p]!.1) :
  ∃ X1 X2 Y1 Y2, X = X1 ++ X2 ∧ Y = Y1 ++ Y2 ∧ X1.length = p - a ∧ X2.length = m - p ∧ Y1.length = mid + m - p - m ∧ Y2.length = b - (mid + m - p) ∧
   (∀ y ∈ Y1, ∀ x ∈ X2, y.1 < x.1) ∧ (∀ x ∈ X1, ∀ y ∈ Y2, x.1 ≤ y.1) := by
 refine s.cut (by omega) (by omega) (by omega) (by omega) ?_ ?_
 ·intro i j hi1 hi2 hj1 hj2
  have h1 := s.mX (i := p) (j := i) (by omega) hi1 hi2
  have h2 := s.mY (i := j) (j := mid + m - 1 - p) hj1 (by omega) (by omega)
  have h3 := hi (by omega)
  omega
 ·intro i j hi1 hi2 hj1 hj2
  have h1 := s.mX (i := i) (j := p - 1) hi1 (by omega) (by omega)
  have h2 := s.mY (i := mid + m - p) (j := j) (by omega) hj1 hj2
  have h3 := lo (by omega)
  omega
def MvR (A : List Fa) (x : Fa) (Y B : List Fa) (kk : Nat) (d : Array Fa) : Prop := kk ≤ Y.length ∧ d.toList = A ++ Y.take kk ++ x :: (Y.drop kk ++ B)
theorem MvR.step {x : Fa} {kk : Nat} (h : MvR A x Y B kk d) (hk : kk < Y.length) (ha : a = A.length) : MvR A x Y B (kk + 1) (swp d (a + kk) (a + kk + 1)) := by
 obtain ⟨_, h⟩ := h
 refine ⟨hk, ?_⟩
 have e1 : Y.drop kk = Y[kk] :: Y.drop (kk + 1) := List.drop_eq_getElem_cons hk
 have e2 : Y.take (kk + 1) = Y.take kk ++ [Y[kk]] := by rw [List.take_add_one, List.getElem?_eq_getElem hk]; rfl
 rw [e1] at h
 have h2 : d.toList = (A ++ Y.take kk) ++ x :: ([] ++ Y[kk] :: (Y.drop (kk + 1) ++ B)) := by rw [h]; simp only [List.append_assoc, List.cons_append, List.nil_append]
 have l : (A ++ Y.take kk).length = a + kk := by rw [ha]; simp; omega
 have h3 := swp_list (i := a + kk) (j := a + kk + 1) h2 l.symm (by rw [l]; simp)
 rw [h3, e2]
 simp only [List.append_assoc, List.cons_append, List.nil_append]
theorem MvR.back {x : Fa} {kk : Nat} (h : MvR A x Y B (kk + 1) d) (ha : a = A.length) : MvR A x Y B kk (swp d (a + kk + 1) (a + kk)) := by
 obtain ⟨hk, h⟩ := h
 refine ⟨by omega, ?_⟩
 have e1 : Y.drop kk = Y[kk] :: Y.drop (kk + 1) := List.drop_eq_getElem_cons (by omega)
 have e2 : Y.take (kk + 1) = Y.take kk ++ [Y[kk]] := by rw [List.take_add_one, List.getElem?_eq_getElem (by omega)]; rfl
 rw [e2] at h
 have h2 : d.toList = (A ++ Y.take kk) ++ Y[kk] :: ([] ++ x :: (Y.drop (kk + 1) ++ B)) := by rw [h]; simp only [List.append_assoc, List.cons_append, List.nil_append]
 have l : (A ++ Y.take kk).length = a + kk := by rw [ha]; simp; omega
 have h3 := swp_list (i := a + kk) (j := a + kk + 1) h2 l.symm (by rw [l]; simp)
 have hz : d.size = A.length + Y.length + 1 + B.length := by rw [arr_size h]; simp; omega
 rw [swp_comm d (a + kk + 1) (a + kk) (by omega) (by omega) (by omega), h3, e1]
 simp only [List.append_assoc, List.cons_append, List.nil_append]
theorem SyL.one_start (s : SyL a m b d A X Y B) (h1 : m = a + 1) : ∃ x, X = [x] ∧ d[a]! = x ∧ MvR A x Y B 0 d := by
 have h2 := s.em
 obtain ⟨x, rfl⟩ : ∃ x, X = [x] := List.length_eq_one_iff.1 (by omega)
 refine ⟨x, rfl, ?_, Nat.zero_le _, by rw [s.h]; simp⟩
 exact s.gX (t := 0) (by simp)
theorem SyL.one_end (s : SyL a m b d A X Y B) {x : Fa} (hX : X = [x]) (hx : d[a]! = x) {i : Nat} (hi : m ≤ i) (hi2 : i ≤ b) (lo : m < i → d[i - 1]!.1 < x.1) (hh : i < b → x.1 ≤ d[i]!.1)
  {d' : Array Fa} (h' : MvR A x Y B (i - m) d') : SyE A X Y B d' := by
 have h1 := s.ea; have h2 := s.em; have h3 := s.eb
 subst hX
 have h2' : m = a + 1 := h2
 obtain ⟨_, h'⟩ := h'
 refine ⟨Y.take (i - m) ++ x :: Y.drop (i - m), by rw [h']; simp, ?_⟩
 have hcut : (∀ y ∈ Y.take (i - m), ∀ z ∈ [x], y.1 < z.1) ∧ (∀ y ∈ Y.drop (i - m), x.1 ≤ y.1) := by
  refine ⟨fun y hy z hz => ?_, fun y hy => ?_⟩
  ·obtain rfl : z = x := by simpa using hz
   obtain ⟨t, ht, ht2, rfl⟩ := mem_take hy
   rw [← s.gY ht]
   have h4 := s.mY (i := m + t) (j := i - 1) (by omega) (by omega) (by omega)
   have h5 := lo (by omega)
   omega
  ·obtain ⟨t, ht, ht2, rfl⟩ := mem_drop hy
   rw [← s.gY ht]
   have h4 := s.mY (i := i) (j := m + t) (by omega) (by omega) (by omega)
   have h5 := hh (by omega)
   omega
 have e := List.take_append_drop (i - m) Y
 have hs := s.sY
 generalize Y.take (i - m) = Y1 at e hcut
 generalize Y.drop (i - m) = Y2 at e hcut
 subst e
 have hz2 : Srt ([x] ++ Y2) := Srt.app (List.pairwise_singleton _ _) hs.right fun z hz y hy => by
  obtain rfl : z = x := by simpa using hz
  exact hcut.2 y hy
 have := merge_parts (X1 := []) (X2 := [x]) (Y1 := Y1) (Y2 := Y2) (Z1 := Y1) (Z2 := [x] ++ Y2) (List.pairwise_singleton _ _) hs hcut.1 (fun x hx => by simp at hx) hs.left (by simpa using StbF.refl Y1) hz2 (StbF.refl _)
 simpa using this
theorem SyL.last_start (s : SyL a m b d A X Y B) (h1 : b = m + 1) : ∃ y, Y = [y] ∧ d[m]! = y ∧ MvR A y X B (m - a) d := by
 have h2 := s.eb; have h3 := s.em
 obtain ⟨y, rfl⟩ : ∃ x, Y = [x] := List.length_eq_one_iff.1 (by omega)
 refine ⟨y, rfl, ?_, by omega, ?_⟩
 ·exact s.gY (t := 0) (by simp)
 ·rw [s.h, show m - a = X.length by omega]; simp
theorem SyL.last_end (s : SyL a m b d A X Y B) {y : Fa} (hY : Y = [y]) {i : Nat} (hi : a ≤ i) (hi2 : i ≤ m) (lo : a < i → d[i - 1]!.1 ≤ y.1) (hh : i < m → y.1 < d[i]!.1)
  {d' : Array Fa} (h' : MvR A y X B (i - a) d') : SyE A X Y B d' := by
 have h1 := s.ea; have h2 := s.em; have h3 := s.eb
 subst hY
 obtain ⟨_, h'⟩ := h'
 refine ⟨X.take (i - a) ++ y :: X.drop (i - a), by rw [h']; simp, ?_⟩
 have hcut : (∀ x ∈ X.take (i - a), x.1 ≤ y.1) ∧ (∀ z ∈ [y], ∀ x ∈ X.drop (i - a), z.1 < x.1) := by
  refine ⟨fun x hx => ?_, fun z hz x hx => ?_⟩
  ·obtain ⟨t, ht, ht2, rfl⟩ := mem_take hx
   rw [← s.gX ht]
   have h4 := s.mX (i := a + t) (j := i - 1) (by omega) (by omega) (by omega)
   have h5 := lo (by omega)
   omega
  ·obtain rfl : z = y := by simpa using hz
   obtain ⟨t, ht, ht2, rfl⟩ := mem_drop hx
   rw [← s.gX ht]
   have h4 := s.mX (i := i) (j := a + t) (by omega) (by omega) (by omega)
   have h5 := hh (by omega)
   omega
 have e := List.take_append_drop (i - a) X
 have hs := s.sX
 generalize X.take (i - a) = X1 at e hcut
 generalize X.drop (i - a) = X2 at e hcut
 subst e
 have hz1 : Srt (X1 ++ [y]) := Srt.app hs.left (List.pairwise_singleton _ _) fun x hx z hz => by
  obtain rfl : z = y := by simpa using hz
  exact hcut.1 x hx
 have := merge_parts (X1 := X1) (X2 := X2) (Y1 := [y]) (Y2 := []) (Z1 := X1 ++ [y]) (Z2 := X2) hs (List.pairwise_singleton _ _) hcut.2 (fun x _ y hy => by simp at hy) hz1 (StbF.refl _) hs.right (by simpa using StbF.refl X2)
 simpa using this
end
end Go.Proofs.YtalefbmoebobkaaGreatDoor
/- slices.symMergeCmpFunc at faults, walked: two sorted rows next to one another become one, those of one number in their order. Written by wip/tools/mkfas2.py. -/
namespace Go.Proofs.YtalefbmoebobkaaGreatDoor
set_option maxRecDepth 100000
open Go.Shelf Go.RowKit Go.Lib Go.Sort Go.Proofs
theorem cross_same {A X1 X2 Y1 Y2 B : List Fa} (h : X2.length = 0 ∨ Y1.length = 0) : A ++ (X1 ++ X2) ++ (Y1 ++ Y2) ++ B = A ++ X1 ++ Y1 ++ X2 ++ Y2 ++ B := by
 rcases h with h | h
 ·rw [List.length_eq_zero_iff.1 h]; simp
 ·rw [List.length_eq_zero_iff.1 h]; simp
theorem half_same {X Y : List Fa} (h : X.length = 0 ∨ Y.length = 0) (hX : Srt X) (hY : Srt Y) : Srt (X ++ Y) := by
 rcases h with h | h
 ·rw [List.length_eq_zero_iff.1 h]; simpa using hY
 ·rw [List.length_eq_zero_iff.1 h]; simpa using hX
theorem half_len {A X1 Y1 X2 Y2 B Z : List Fa} {d d2 : Array Fa} (h : d.toList = A ++ X1 ++ Y1 ++ X2 ++ Y2 ++ B) (h2 : d2.toList = A ++ Z ++ (X2 ++ Y2 ++ B)) (hz : d2.size = d.size) : Z.length = X1.length + Y1.length := by
 have e1 := arr_size h
 have e2 := arr_size h2
 simp at e1 e2
 omega
theorem sym_end {A X1 X2 Y1 Y2 B Z1 Z2 : List Fa} {d3 : Array Fa} (hX : Srt (X1 ++ X2)) (hY : Srt (Y1 ++ Y2)) (h21 : ∀ y ∈ Y1, ∀ x ∈ X2, y.1 < x.1) (h12 : ∀ x ∈ X1, ∀ y ∈ Y2, x.1 ≤ y.1)
  (h1 : Srt Z1 ∧ StbF (X1 ++ Y1) Z1) (h2 : Srt Z2 ∧ StbF (X2 ++ Y2) Z2) (h3 : d3.toList = A ++ Z1 ++ Z2 ++ B) : SyE A (X1 ++ X2) (Y1 ++ Y2) B d3 :=
 have h := merge_parts hX hY h21 h12 h1.1 h1.2 h2.1 h2.2
 ⟨Z1 ++ Z2, by rw [h3]; simp, h.1, h.2⟩
def SymC (P : Program) (k g : Nat) (cb : Array Value) (blk off cap : Nat) (d0 : Array Fa) (w0 : World) (N : Nat) : Prop :=
 ∀ (a m b : Nat) (d : Array Fa) (A X Y B : List Fa) (w : World), b - a ≤ N → d0.size = d.size → SWK encF k w0 blk off d w → a < m → m < b → d.size < 1152921504606846976 → SyL a m b d A X Y B →
  Calls P 157 #[.slice (some ⟨blk, off, none⟩) d.size cap, .int .i64 a, .int .i64 m, .int .i64 b, .func (.func g) #[] cb] w fun e w' => e = .returned (.tuple #[]) ∧ ∃ d' : Array Fa, d'.size = d.size ∧ SyE A X Y B d' ∧ SWK encF k w0 blk off d' w'
/- slices.symMergeCmpFunc at faults, walked: the first row is of one. Written by wip/tools/mkfas2.py. -/
set_option maxHeartbeats 40000000 in
set_option maxRecDepth 1000000 in
theorem sw_sym1 {P : Program} {k : Nat} (L : Prg P k) (g : Nat) (cb : Array Value) (eg : ∀ args w, (callFunc g args).run P w = .ok (.enter g args) w) (blk off cap : Nat) (d0 : Array Fa) (w0 : World) (hcmp : CmpLays P g cb encF k cfF blk off d0.size w0) (R : RowK encF k w0 blk off d0)
  (N a m b : Nat) (d : Array Fa) (A X Y B : List Fa) (w : World) (IH : SymC P k g cb blk off cap d0 w0 N) (_ : b - a ≤ N + 1) (hs : d0.size = d.size) (S : SWK encF k w0 blk off d w) (_ : a < m) (hmb : m < b) (hsz : d.size < 1152921504606846976) (hL : SyL a m b d A X Y B) (h1 : m = a + 1) :
  Calls P 157 #[.slice (some ⟨blk, off, none⟩) d.size cap, .int .i64 a, .int .i64 m, .int .i64 b, .func (.func g) #[] cb] w fun e w' => e = .returned (.tuple #[]) ∧ ∃ d' : Array Fa, d'.size = d.size ∧ SyE A X Y B d' ∧ SWK encF k w0 blk off d' w' := by
 have mixed := L.mixed; have t0 := L.t0; have a0 := L.a0; have z0 := L.z0; have v0 := L.v0; have t3 := L.t3; have a3 := L.a3; have z3 := L.z3; have v3 := L.v3; have t4 := L.t4; have a4 := L.a4; have z4 := L.z4; have v4 := L.v4; have t22 := L.t22; have a22 := L.a22; have z22 := L.z22; have v22 := L.v22; have t48 := L.t48; have a48 := L.a48; have z48 := L.z48; have v48 := L.v48; have t58 := L.t58; have a58 := L.a58; have z58 := L.z58; have v58 := L.v58
 have aE := L.aF; have zE := L.zF
 have FG := L.fSy
 have eRo : ∀ args w, (callFunc 167 args).run P w = .ok (.enter 167 args) w := enters_of L.fRo (by kernel_rfl) rfl
 have eSy : ∀ args w, (callFunc 157 args).run P w = .ok (.enter 157 args) w := enters_of L.fSy (by kernel_rfl) rfl
 have hb := hL.size
 have HC : Aside _ := hcmp
 have HIH : Aside (SymC P k g cb blk off cap d0 w0 N) := IH
 have HL : Aside (SyL a m b d A X Y B) := hL
 have S0 : Aside (SWK encF k w0 blk off d w) := S
 clear hcmp S hL IH
 have h1z : (m : Int) - (a : Int) = 1 := by omega
 have h1a : m ≤ a + 1 := by omega
 obtain ⟨x, hX, hx, hM⟩ := HL.out.one_start h1
 have XX : Aside (X = [x] ∧ d[a]! = x) := ⟨hX, hx⟩
 have M0 : Aside (MvR A x Y B 0 d) := hM
 clear hX hx hM; clear h1
 go_enter FG, Tryz.ntmps157
 go_wp2
 go_loopg [10, 11] (b - m) (fun kx s10 s11 wr => ∃ p q : Nat, s10 = .int .i64 p ∧ s11 = .int .i64 q ∧ m ≤ p ∧ p ≤ q ∧ q ≤ b ∧ q - p ≤ kx ∧ Aside (SWK encF k w0 blk off d wr) ∧ Aside ((m < p → d[p - 1]!.1 < x.1) ∧ (q < b → x.1 ≤ d[q]!.1)))
 case atStart => exact ⟨m, b, rfl, rfl, Nat.le_refl _, by omega, Nat.le_refl _, Nat.le_refl _, S0, ⟨fun h => by omega, fun h => by omega⟩⟩
 case round =>
  clear S0
  obtain ⟨p, q, rfl, rfl, hmp, hpq, hqb, hkx, S1, E1⟩ := hrel
  by_cases hlt : p < q
  ·have hltz : (p : Int) < (q : Int) := by omega
   by_cases hv : d[(p + q) / 2]!.1 < x.1
   ·have hv2 : d[(p + q) / 2]!.1 < d[a]!.1 := by rw [XX.out.2]; exact hv
    have ea24 : (((p : Int) + (q : Int)) / 2).toNat = (p + q) / 2 := by omega
    have pa24 : (0 : Int) ≤ ((p : Int) + (q : Int)) / 2 := by omega
    have ba24 : ((p : Int) + (q : Int)) / 2 < (d.size : Int) := by omega
    have ra24 : IntKind.i64.wrap (((p : Int) + (q : Int)) / 2) = ((p : Int) + (q : Int)) / 2 := by rw [IntKind.wrap_i64]; omega
    have ea24c : ((a : Int)).toNat = a := by omega
    have pa24c : (0 : Int) ≤ (a : Int) := by omega
    have ba24c : (a : Int) < (d.size : Int) := by omega
    have ra24c : IntKind.i64.wrap ((a : Int)) = (a : Int) := by rw [IntKind.wrap_i64]; omega
    obtain ⟨x24, hx24⟩ : ∃ x, x = d[(p + q) / 2]! := ⟨_, rfl⟩
    obtain ⟨y24, hy24⟩ : ∃ x, x = d[a]! := ⟨_, rfl⟩
    have l24a := S1.out.ld R (by omega) P ((p + q) / 2) (by omega)
    have l24b := S1.out.ld R (by omega) P (a) (by omega)
    rw [← hx24] at l24a
    rw [← hy24] at l24b
    have hc24 := S1.out.cmp HC.out (by omega) x24 y24
    have hv24 : cfF x24 y24 < 0 := by rw [hx24, hy24]; exact (cf_lt _ _).2 hv2
    have hd24 : decide (cfF x24 y24 < 0) = true := decide_eq_true hv24
    clear hx24 hy24
    go_wp2_with fail
    go_quiet_grown (first | (go_at_fn g; refine Calls.grown_of (hc24 _ _)))
    have S2 : Aside (SWK encF k w0 blk off d (grow (wr.drewN nq) osq)) := S1.out.grown nq osq
    clear l24a l24b hc24 S1
    generalize grow (wr.drewN nq) osq = w2 at S2 ⊢
    clear nq osq
    go_wp2
    go_roundg (q - ((p + q) / 2 + 1))
    case measure => omega
    case rel =>
     have E2 : Aside ((m < (p + q) / 2 + 1 → d[(p + q) / 2 + 1 - 1]!.1 < x.1) ∧ (q < b → x.1 ≤ d[q]!.1)) := ⟨fun _ => hv, E1.out.2⟩
     exact ⟨(p + q) / 2 + 1, q, by rw [show ((p : Int) + (q : Int)) / 2 + 1 = (((p + q) / 2 + 1 : Nat) : Int) by omega], rfl, by omega, by omega, hqb, Nat.le_refl _, S2, E2⟩
   ·have hv2 : ¬ d[(p + q) / 2]!.1 < d[a]!.1 := by rw [XX.out.2]; exact hv
    have ea24 : (((p : Int) + (q : Int)) / 2).toNat = (p + q) / 2 := by omega
    have pa24 : (0 : Int) ≤ ((p : Int) + (q : Int)) / 2 := by omega
    have ba24 : ((p : Int) + (q : Int)) / 2 < (d.size : Int) := by omega
    have ra24 : IntKind.i64.wrap (((p : Int) + (q : Int)) / 2) = ((p : Int) + (q : Int)) / 2 := by rw [IntKind.wrap_i64]; omega
    have ea24c : ((a : Int)).toNat = a := by omega
    have pa24c : (0 : Int) ≤ (a : Int) := by omega
    have ba24c : (a : Int) < (d.size : Int) := by omega
    have ra24c : IntKind.i64.wrap ((a : Int)) = (a : Int) := by rw [IntKind.wrap_i64]; omega
    obtain ⟨x24, hx24⟩ : ∃ x, x = d[(p + q) / 2]! := ⟨_, rfl⟩
    obtain ⟨y24, hy24⟩ : ∃ x, x = d[a]! := ⟨_, rfl⟩
    have l24a := S1.out.ld R (by omega) P ((p + q) / 2) (by omega)
    have l24b := S1.out.ld R (by omega) P (a) (by omega)
    rw [← hx24] at l24a
    rw [← hy24] at l24b
    have hc24 := S1.out.cmp HC.out (by omega) x24 y24
    have hv24 : ¬ cfF x24 y24 < 0 := by rw [hx24, hy24]; exact fun h => hv2 ((cf_lt _ _).1 h)
    have hd24 : decide (cfF x24 y24 < 0) = false := decide_eq_false hv24
    clear hx24 hy24
    go_wp2_with fail
    go_quiet_grown (first | (go_at_fn g; refine Calls.grown_of (hc24 _ _)))
    have S2 : Aside (SWK encF k w0 blk off d (grow (wr.drewN nq) osq)) := S1.out.grown nq osq
    clear l24a l24b hc24 S1
    generalize grow (wr.drewN nq) osq = w2 at S2 ⊢
    clear nq osq
    go_wp2
    go_roundg ((p + q) / 2 - p)
    case measure => omega
    case rel =>
     have E2 : Aside ((m < p → d[p - 1]!.1 < x.1) ∧ ((p + q) / 2 < b → x.1 ≤ d[(p + q) / 2]!.1)) := ⟨E1.out.1, fun _ => by omega⟩
     exact ⟨p, (p + q) / 2, rfl, by rw [show ((p : Int) + (q : Int)) / 2 = (((p + q) / 2 : Nat) : Int) by omega], hmp, by omega, by omega, Nat.le_refl _, S2, E2⟩
  ·obtain rfl : p = q := by omega
   have hltz : ¬ (p : Int) < (p : Int) := by omega
   go_wp2
   go_loopg [13] (p - 1 - a) (fun kx s13 wr => ∃ (u : Nat) (dk : Array Fa), s13 = .int .i64 u ∧ a ≤ u ∧ u ≤ p - 1 ∧ p - 1 - u ≤ kx ∧ dk.size = d.size ∧ Aside (SWK encF k w0 blk off dk wr) ∧ Aside (MvR A x Y B (u - a) dk))
   case atStart => exact ⟨a, d, rfl, Nat.le_refl _, by omega, Nat.le_refl _, rfl, S1, by rw [Nat.sub_self]; exact M0⟩
   case round =>
    clear S1
    obtain ⟨u, dk, rfl, hau, hup, hkx2, hds, S1, M1⟩ := hrel
    by_cases hlt2 : u < p - 1
    ·have hlt2z : (u : Int) < (p : Int) - 1 := by omega
     have hlY : u - a < Y.length := by have := HL.out.eb; omega
     have M2 : Aside (MvR A x Y B (u + 1 - a) (swp dk u (u + 1))) := by
      have h := M1.out.step hlY HL.out.ea
      rw [show a + (u - a) = u by omega, show u - a + 1 = u + 1 - a by omega] at h
      exact h
     have ea44 : ((u : Int)).toNat = u := by omega
     have pa44 : (0 : Int) ≤ (u : Int) := by omega
     have ba44 : (u : Int) < (d.size : Int) := by omega
     have ra44 : IntKind.i64.wrap ((u : Int)) = (u : Int) := by rw [IntKind.wrap_i64]; omega
     have ea44c : ((u : Int) + 1).toNat = u + 1 := by omega
     have pa44c : (0 : Int) ≤ (u : Int) + 1 := by omega
     have ba44c : (u : Int) + 1 < (d.size : Int) := by omega
     have ra44c : IntKind.i64.wrap ((u : Int) + 1) = (u : Int) + 1 := by rw [IntKind.wrap_i64]; omega
     have S2 : Aside (SWK encF k w0 blk off (swp dk (u) (u + 1)) ((wr.drew.setCells blk (off + (u) * k) (encF dk[u + 1]!)).setCells blk (off + (u + 1) * k) (encF dk[u]!))) := S1.out.swapped R (u) (u + 1) (by omega) (by omega)
     have l44a := S1.out.ld1 R (by omega) P (u) (by omega)
     have l44b := S1.out.ld1 R (by omega) P (u + 1) (by omega)
     have s44a := S1.out.st1 R (by omega) P (u) (by omega) dk[u + 1]!
     have s44b := S1.out.st2 R (by omega) P (u) (u + 1) (by omega) (by omega) dk[u + 1]! dk[u]!
     have n44a : (encF dk[u]!).length = k := R.hk _
     have n44b : (encF dk[u + 1]!).length = k := R.hk _
     generalize encF dk[u]! = cI44 at S2 l44a s44b n44a
     generalize encF dk[u + 1]! = cJ44 at S2 l44b s44a s44b n44b
     clear S1
     go_wp2_with fail
     go_big_region_o
     clear l44a l44b s44a s44b
     generalize (wr.drew.setCells blk (off + (u) * k) cJ44).setCells blk (off + (u + 1) * k) cI44 = w2 at S2 ⊢
     have hz2 : (swp dk u (u + 1)).size = d.size := by rw [size_swp]; exact hds
     go_wp2
     go_roundg (p - 1 - (u + 1))
     case measure => omega
     case rel => exact ⟨u + 1, swp dk u (u + 1), by go_num, by omega, by omega, Nat.le_refl _, hz2, S2, M2⟩
    ·have hlt2z : ¬ (u : Int) < (p : Int) - 1 := by omega
     go_wp2
     (try simp only [Exit.inBlock, Exit.then]); refine bodyPost_ret (results_none rfl _ _ _) rfl ?_
     refine ⟨rfl, dk, hds, ?_, S1.out⟩
     exact HL.out.one_end XX.out.1 XX.out.2 hmp hqb E1.out.1 E1.out.2 (by have := M1.out; rwa [show u - a = p - m by omega] at this)
/- slices.symMergeCmpFunc at faults, walked: the second row is of one. Written by wip/tools/mkfas2.py. -/
set_option maxHeartbeats 40000000 in
set_option maxRecDepth 1000000 in
theorem sw_sym2 {P : Program} {k : Nat} (L : Prg P k) (g : Nat) (cb : Array Value) (eg : ∀ args w, (callFunc g args).run P w = .ok (.enter g args) w) (blk off cap : Nat) (d0 : Array Fa) (w0 : World) (hcmp : CmpLays P g cb encF k cfF blk off d0.size w0) (R : RowK encF k w0 blk off d0)
  (N a m b : Nat) (d : Array Fa) (A X Y B : List Fa) (w : World) (IH : SymC P k g cb blk off cap d0 w0 N) (_ : b - a ≤ N + 1) (hs : d0.size = d.size) (S : SWK encF k w0 blk off d w) (ham : a < m) (_ : m < b) (hsz : d.size < 1152921504606846976) (hL : SyL a m b d A X Y B) (h1 : ¬ m = a + 1) (h2 : b = m + 1) :
  Calls P 157 #[.slice (some ⟨blk, off, none⟩) d.size cap, .int .i64 a, .int .i64 m, .int .i64 b, .func (.func g) #[] cb] w fun e w' => e = .returned (.tuple #[]) ∧ ∃ d' : Array Fa, d'.size = d.size ∧ SyE A X Y B d' ∧ SWK encF k w0 blk off d' w' := by
 have mixed := L.mixed; have t0 := L.t0; have a0 := L.a0; have z0 := L.z0; have v0 := L.v0; have t3 := L.t3; have a3 := L.a3; have z3 := L.z3; have v3 := L.v3; have t4 := L.t4; have a4 := L.a4; have z4 := L.z4; have v4 := L.v4; have t22 := L.t22; have a22 := L.a22; have z22 := L.z22; have v22 := L.v22; have t48 := L.t48; have a48 := L.a48; have z48 := L.z48; have v48 := L.v48; have t58 := L.t58; have a58 := L.a58; have z58 := L.z58; have v58 := L.v58
 have aE := L.aF; have zE := L.zF
 have FG := L.fSy
 have eRo : ∀ args w, (callFunc 167 args).run P w = .ok (.enter 167 args) w := enters_of L.fRo (by kernel_rfl) rfl
 have eSy : ∀ args w, (callFunc 157 args).run P w = .ok (.enter 157 args) w := enters_of L.fSy (by kernel_rfl) rfl
 have hb := hL.size
 have HC : Aside _ := hcmp
 have HIH : Aside (SymC P k g cb blk off cap d0 w0 N) := IH
 have HL : Aside (SyL a m b d A X Y B) := hL
 have S0 : Aside (SWK encF k w0 blk off d w) := S
 clear hcmp S hL IH
 have h1z : ¬ (m : Int) - (a : Int) = 1 := by omega
 have h1b : ((m : Int) - (a : Int) == 1) = false := by simp; omega
 have h2z : (b : Int) - (m : Int) = 1 := by omega
 have h2a : b ≤ m + 1 := by omega
 obtain ⟨x, hX, hx, hM⟩ := HL.out.last_start h2
 have XX : Aside (Y = [x] ∧ d[m]! = x) := ⟨hX, hx⟩
 have M0 : Aside (MvR A x X B (m - a) d) := hM
 clear hX hx hM; clear h1 h2
 go_enter FG, Tryz.ntmps157
 go_wp2
 go_loopg [14, 15] (m - a) (fun kx s10 s11 wr => ∃ p q : Nat, s10 = .int .i64 p ∧ s11 = .int .i64 q ∧ a ≤ p ∧ p ≤ q ∧ q ≤ m ∧ q - p ≤ kx ∧ Aside (SWK encF k w0 blk off d wr) ∧ Aside ((a < p → d[p - 1]!.1 ≤ x.1) ∧ (q < m → x.1 < d[q]!.1)))
 case atStart => exact ⟨a, m, rfl, rfl, Nat.le_refl _, by omega, Nat.le_refl _, Nat.le_refl _, S0, ⟨fun h => by omega, fun h => by omega⟩⟩
 case round =>
  clear S0
  obtain ⟨p, q, rfl, rfl, hmp, hpq, hqb, hkx, S1, E1⟩ := hrel
  by_cases hlt : p < q
  ·have hltz : (p : Int) < (q : Int) := by omega
   by_cases hv : x.1 < d[(p + q) / 2]!.1
   ·have hv2 : d[m]!.1 < d[(p + q) / 2]!.1 := by rw [XX.out.2]; exact hv
    have ea24 : ((m : Int)).toNat = m := by omega
    have pa24 : (0 : Int) ≤ (m : Int) := by omega
    have ba24 : (m : Int) < (d.size : Int) := by omega
    have ra24 : IntKind.i64.wrap ((m : Int)) = (m : Int) := by rw [IntKind.wrap_i64]; omega
    have ea24c : (((p : Int) + (q : Int)) / 2).toNat = (p + q) / 2 := by omega
    have pa24c : (0 : Int) ≤ ((p : Int) + (q : Int)) / 2 := by omega
    have ba24c : ((p : Int) + (q : Int)) / 2 < (d.size : Int) := by omega
    have ra24c : IntKind.i64.wrap (((p : Int) + (q : Int)) / 2) = ((p : Int) + (q : Int)) / 2 := by rw [IntKind.wrap_i64]; omega
    obtain ⟨x24, hx24⟩ : ∃ x, x = d[m]! := ⟨_, rfl⟩
    obtain ⟨y24, hy24⟩ : ∃ x, x = d[(p + q) / 2]! := ⟨_, rfl⟩
    have l24a := S1.out.ld R (by omega) P (m) (by omega)
    have l24b := S1.out.ld R (by omega) P ((p + q) / 2) (by omega)
    rw [← hx24] at l24a
    rw [← hy24] at l24b
    have hc24 := S1.out.cmp HC.out (by omega) x24 y24
    have hv24 : cfF x24 y24 < 0 := by rw [hx24, hy24]; exact (cf_lt _ _).2 hv2
    have hd24 : decide (cfF x24 y24 < 0) = true := decide_eq_true hv24
    clear hx24 hy24
    go_wp2_with fail
    go_quiet_grown (first | (go_at_fn g; refine Calls.grown_of (hc24 _ _)))
    have S2 : Aside (SWK encF k w0 blk off d (grow (wr.drewN nq) osq)) := S1.out.grown nq osq
    clear l24a l24b hc24 S1
    generalize grow (wr.drewN nq) osq = w2 at S2 ⊢
    clear nq osq
    go_wp2
    go_roundg ((p + q) / 2 - p)
    case measure => omega
    case rel =>
     have E2 : Aside ((a < p → d[p - 1]!.1 ≤ x.1) ∧ ((p + q) / 2 < m → x.1 < d[(p + q) / 2]!.1)) := ⟨E1.out.1, fun _ => hv⟩
     exact ⟨p, (p + q) / 2, rfl, by rw [show ((p : Int) + (q : Int)) / 2 = (((p + q) / 2 : Nat) : Int) by omega], hmp, by omega, by omega, Nat.le_refl _, S2, E2⟩
   ·have hv2 : ¬ d[m]!.1 < d[(p + q) / 2]!.1 := by rw [XX.out.2]; exact hv
    have ea24 : ((m : Int)).toNat = m := by omega
    have pa24 : (0 : Int) ≤ (m : Int) := by omega
    have ba24 : (m : Int) < (d.size : Int) := by omega
    have ra24 : IntKind.i64.wrap ((m : Int)) = (m : Int) := by rw [IntKind.wrap_i64]; omega
    have ea24c : (((p : Int) + (q : Int)) / 2).toNat = (p + q) / 2 := by omega
    have pa24c : (0 : Int) ≤ ((p : Int) + (q : Int)) / 2 := by omega
    have ba24c : ((p : Int) + (q : Int)) / 2 < (d.size : Int) := by omega
    have ra24c : IntKind.i64.wrap (((p : Int) + (q : Int)) / 2) = ((p : Int) + (q : Int)) / 2 := by rw [IntKind.wrap_i64]; omega
    obtain ⟨x24, hx24⟩ : ∃ x, x = d[m]! := ⟨_, rfl⟩
    obtain ⟨y24, hy24⟩ : ∃ x, x = d[(p + q) / 2]! := ⟨_, rfl⟩
    have l24a := S1.out.ld R (by omega) P (m) (by omega)
    have l24b := S1.out.ld R (by omega) P ((p + q) / 2) (by omega)
    rw [← hx24] at l24a
    rw [← hy24] at l24b
    have hc24 := S1.out.cmp HC.out (by omega) x24 y24
    have hv24 : ¬ cfF x24 y24 < 0 := by rw [hx24, hy24]; exact fun h => hv2 ((cf_lt _ _).1 h)
    have hd24 : decide (cfF x24 y24 < 0) = false := decide_eq_false hv24
    clear hx24 hy24
    go_wp2_with fail
    go_quiet_grown (first | (go_at_fn g; refine Calls.grown_of (hc24 _ _)))
    have S2 : Aside (SWK encF k w0 blk off d (grow (wr.drewN nq) osq)) := S1.out.grown nq osq
    clear l24a l24b hc24 S1
    generalize grow (wr.drewN nq) osq = w2 at S2 ⊢
    clear nq osq
    go_wp2
    go_roundg (q - ((p + q) / 2 + 1))
    case measure => omega
    case rel =>
     have E2 : Aside ((a < (p + q) / 2 + 1 → d[(p + q) / 2 + 1 - 1]!.1 ≤ x.1) ∧ (q < m → x.1 < d[q]!.1)) := ⟨fun _ => by rw [Nat.add_sub_cancel]; omega, E1.out.2⟩
     exact ⟨(p + q) / 2 + 1, q, by rw [show ((p : Int) + (q : Int)) / 2 + 1 = (((p + q) / 2 + 1 : Nat) : Int) by omega], rfl, by omega, by omega, hqb, Nat.le_refl _, S2, E2⟩
  ·obtain rfl : p = q := by omega
   have hltz : ¬ (p : Int) < (p : Int) := by omega
   go_wp2
   go_loopg [17] (m - p) (fun kx s13 wr => ∃ (u : Nat) (dk : Array Fa), s13 = .int .i64 u ∧ p ≤ u ∧ u ≤ m ∧ u - p ≤ kx ∧ dk.size = d.size ∧ Aside (SWK encF k w0 blk off dk wr) ∧ Aside (MvR A x X B (u - a) dk))
   case atStart => exact ⟨m, d, rfl, by omega, Nat.le_refl _, Nat.le_refl _, rfl, S1, M0⟩
   case round =>
    clear S1
    obtain ⟨u1, dk, rfl, hpu, hum, hkx2, hds, S1, M1⟩ := hrel
    by_cases hlt2 : p < u1
    ·have hlt2z : (p : Int) < (u1 : Int) := by omega
     obtain ⟨u, rfl⟩ : ∃ u, u1 = u + 1 := ⟨u1 - 1, by omega⟩
     have hlt3z : (p : Int) < (u : Int) + 1 := by omega
     have M2 : Aside (MvR A x X B (u - a) (swp dk (u + 1) u)) := by
      have h := M1.out
      rw [show u + 1 - a = u - a + 1 by omega] at h
      have h := h.back HL.out.ea
      rw [show a + (u - a) = u by omega] at h
      exact h
     have ea44 : ((u : Int) + 1).toNat = u + 1 := by omega
     have pa44 : (0 : Int) ≤ (u : Int) + 1 := by omega
     have ba44 : (u : Int) + 1 < (d.size : Int) := by omega
     have ra44 : IntKind.i64.wrap ((u : Int) + 1) = (u : Int) + 1 := by rw [IntKind.wrap_i64]; omega
     have ea44c : ((u : Int)).toNat = u := by omega
     have pa44c : (0 : Int) ≤ (u : Int) := by omega
     have ba44c : (u : Int) < (d.size : Int) := by omega
     have ra44c : IntKind.i64.wrap ((u : Int)) = (u : Int) := by rw [IntKind.wrap_i64]; omega
     have S2 : Aside (SWK encF k w0 blk off (swp dk (u + 1) (u)) ((wr.drew.setCells blk (off + (u + 1) * k) (encF dk[u]!)).setCells blk (off + (u) * k) (encF dk[u + 1]!))) := S1.out.swapped R (u + 1) (u) (by omega) (by omega)
     have l44a := S1.out.ld1 R (by omega) P (u + 1) (by omega)
     have l44b := S1.out.ld1 R (by omega) P (u) (by omega)
     have s44a := S1.out.st1 R (by omega) P (u + 1) (by omega) dk[u]!
     have s44b := S1.out.st2 R (by omega) P (u + 1) (u) (by omega) (by omega) dk[u]! dk[u + 1]!
     have n44a : (encF dk[u + 1]!).length = k := R.hk _
     have n44b : (encF dk[u]!).length = k := R.hk _
     generalize encF dk[u + 1]! = cI44 at S2 l44a s44b n44a
     generalize encF dk[u]! = cJ44 at S2 l44b s44a s44b n44b
     clear S1
     go_wp2_with fail
     go_big_region_o
     clear l44a l44b s44a s44b
     generalize (wr.drew.setCells blk (off + (u + 1) * k) cJ44).setCells blk (off + (u) * k) cI44 = w2 at S2 ⊢
     have hz2 : (swp dk (u + 1) u).size = d.size := by rw [size_swp]; exact hds
     go_wp2
     go_roundg (u - p)
     case measure => omega
     case rel => exact ⟨u, swp dk (u + 1) u, by go_num, by omega, by omega, Nat.le_refl _, hz2, S2, M2⟩
    ·have hlt2z : ¬ (p : Int) < (u1 : Int) := by omega
     go_wp2
     (try simp only [Exit.inBlock, Exit.then]); refine bodyPost_ret (results_none rfl _ _ _) rfl ?_
     refine ⟨rfl, dk, hds, ?_, S1.out⟩
     exact HL.out.last_end XX.out.1 hmp hqb (by rw [← XX.out.2] ; rw [XX.out.2]; exact E1.out.1) E1.out.2 (by have := M1.out; rwa [show u1 - a = p - a by omega] at this)
/- slices.symMergeCmpFunc at faults, walked: the rows are cut, and each half is merged: the first row is the longer. Written by wip/tools/mkfas2.py. -/
set_option maxHeartbeats 40000000 in
set_option maxRecDepth 1000000 in
theorem sw_sym3 {P : Program} {k : Nat} (L : Prg P k) (g : Nat) (cb : Array Value) (eg : ∀ args w, (callFunc g args).run P w = .ok (.enter g args) w) (blk off cap : Nat) (d0 : Array Fa) (w0 : World) (hcmp : CmpLays P g cb encF k cfF blk off d0.size w0) (R : RowK encF k w0 blk off d0)
  (N a m b : Nat) (d : Array Fa) (A X Y B : List Fa) (w : World) (IH : SymC P k g cb blk off cap d0 w0 N) (hN : b - a ≤ N + 1) (hs : d0.size = d.size) (S : SWK encF k w0 blk off d w) (ham : a < m) (hmb : m < b) (hsz : d.size < 1152921504606846976) (hL : SyL a m b d A X Y B) (_ : ¬ m = a + 1) (_ : ¬ b = m + 1) (_ : (a + b) / 2 < m) :
  Calls P 157 #[.slice (some ⟨blk, off, none⟩) d.size cap, .int .i64 a, .int .i64 m, .int .i64 b, .func (.func g) #[] cb] w fun e w' => e = .returned (.tuple #[]) ∧ ∃ d' : Array Fa, d'.size = d.size ∧ SyE A X Y B d' ∧ SWK encF k w0 blk off d' w' := by
 have mixed := L.mixed; have t0 := L.t0; have a0 := L.a0; have z0 := L.z0; have v0 := L.v0; have t3 := L.t3; have a3 := L.a3; have z3 := L.z3; have v3 := L.v3; have t4 := L.t4; have a4 := L.a4; have z4 := L.z4; have v4 := L.v4; have t22 := L.t22; have a22 := L.a22; have z22 := L.z22; have v22 := L.v22; have t48 := L.t48; have a48 := L.a48; have z48 := L.z48; have v48 := L.v48; have t58 := L.t58; have a58 := L.a58; have z58 := L.z58; have v58 := L.v58
 have aE := L.aF; have zE := L.zF
 have FG := L.fSy
 have eRo : ∀ args w, (callFunc 167 args).run P w = .ok (.enter 167 args) w := enters_of L.fRo (by kernel_rfl) rfl
 have eSy : ∀ args w, (callFunc 157 args).run P w = .ok (.enter 157 args) w := enters_of L.fSy (by kernel_rfl) rfl
 have hb := hL.size
 have HC : Aside _ := hcmp
 have HIH : Aside (SymC P k g cb blk off cap d0 w0 N) := IH
 have HL : Aside (SyL a m b d A X Y B) := hL
 have S0 : Aside (SWK encF k w0 blk off d w) := S
 clear hcmp S hL IH
 have h1z : ¬ (m : Int) - (a : Int) = 1 := by omega
 have h1b : ((m : Int) - (a : Int) == 1) = false := by simp; omega
 have h2z : ¬ (b : Int) - (m : Int) = 1 := by omega
 have h2b : ((b : Int) - (m : Int) == 1) = false := by simp; omega
 obtain ⟨mid, hmid⟩ : ∃ mid, mid = (a + b) / 2 := ⟨_, rfl⟩
 have hmz : ((a : Int) + (b : Int)) / 2 = (mid : Int) := by omega
 have HM : Hid (mid = (a + b) / 2) := hmid
 have hm1 : a < mid := by omega
 have hm2 : mid < b := by omega
 have hm3 : 2 * mid ≤ a + b := by omega
 have hm4 : a + b ≤ 2 * mid + 1 := by omega
 have hmm : mid < m := by omega
 clear hmid
 have hmmz : (mid : Int) < (m : Int) := by omega
 have hmmb : decide ((mid : Int) < (m : Int)) = true := decide_eq_true hmmz
 obtain ⟨s0, hs0⟩ : ∃ s0, s0 = mid + m - b := ⟨_, rfl⟩
 have hs0z : (mid : Int) + (m : Int) - (b : Int) = (s0 : Int) := by omega
 have HS0 : Hid (s0 = mid + m - b) := hs0
 have hs1 : a ≤ s0 := by omega
 have hs2 : s0 ≤ mid := by omega
 have hs3 : mid + m ≤ s0 + b := by omega
 have hs4 : s0 + b ≤ mid + m := by omega
 clear hs0
 go_enter FG, Tryz.ntmps157
 go_wp2
 go_loopg [20, 21] (mid - s0) (fun kx s10 s11 wr => ∃ p q : Nat, s10 = .int .i64 p ∧ s11 = .int .i64 q ∧ s0 ≤ p ∧ p ≤ q ∧ q ≤ mid ∧ q - p ≤ kx ∧ Aside (SWK encF k w0 blk off d wr) ∧ Aside ((s0 < p → d[p - 1]!.1 ≤ d[mid + m - p]!.1) ∧ (q < mid → d[mid + m - 1 - q]!.1 < d[q]!.1)))
 case atStart => exact ⟨s0, mid, rfl, rfl, Nat.le_refl _, by omega, Nat.le_refl _, Nat.le_refl _, S0, ⟨fun h => by omega, fun h => by omega⟩⟩
 case round =>
  clear S0
  obtain ⟨p, q, rfl, rfl, hmp, hpq, hqb, hkx, S1, E1⟩ := hrel
  by_cases hlt : p < q
  ·have hltz : (p : Int) < (q : Int) := by omega
   have hq1 : (p + q) / 2 + 1 ≤ mid + m := by omega
   obtain ⟨jx, hjx⟩ : ∃ jx, jx = mid + m - 1 - (p + q) / 2 := ⟨_, rfl⟩
   have HJ : Hid (jx = mid + m - 1 - (p + q) / 2) := hjx
   have hjz : (mid : Int) + (m : Int) - 1 - ((p : Int) + (q : Int)) / 2 = (jx : Int) := by omega
   have hjw : IntKind.i64.wrap ((mid : Int) + (m : Int) - 1 - ((p : Int) + (q : Int)) / 2) = (jx : Int) := by rw [IntKind.wrap_i64]; omega
   have hjb : jx < b := by omega
   clear hjx
   by_cases hv : d[jx]!.1 < d[(p + q) / 2]!.1
   ·have hv0 : True := trivial
    have ea24 : ((jx : Int)).toNat = jx := by omega
    have pa24 : (0 : Int) ≤ (jx : Int) := by omega
    have ba24 : (jx : Int) < (d.size : Int) := by omega
    have ra24 : IntKind.i64.wrap ((jx : Int)) = (jx : Int) := by rw [IntKind.wrap_i64]; omega
    have ea24c : (((p : Int) + (q : Int)) / 2).toNat = (p + q) / 2 := by omega
    have pa24c : (0 : Int) ≤ ((p : Int) + (q : Int)) / 2 := by omega
    have ba24c : ((p : Int) + (q : Int)) / 2 < (d.size : Int) := by omega
    have ra24c : IntKind.i64.wrap (((p : Int) + (q : Int)) / 2) = ((p : Int) + (q : Int)) / 2 := by rw [IntKind.wrap_i64]; omega
    obtain ⟨x24, hx24⟩ : ∃ x, x = d[jx]! := ⟨_, rfl⟩
    obtain ⟨y24, hy24⟩ : ∃ x, x = d[(p + q) / 2]! := ⟨_, rfl⟩
    have l24a := S1.out.ld R (by omega) P (jx) (by omega)
    have l24b := S1.out.ld R (by omega) P ((p + q) / 2) (by omega)
    rw [← hx24] at l24a
    rw [← hy24] at l24b
    have hc24 := S1.out.cmp HC.out (by omega) x24 y24
    have hv24 : cfF x24 y24 < 0 := by rw [hx24, hy24]; exact (cf_lt _ _).2 hv
    have hd24 : decide (cfF x24 y24 < 0) = true := decide_eq_true hv24
    clear hx24 hy24
    go_wp2_with fail
    go_quiet_grown (first | (go_at_fn g; refine Calls.grown_of (hc24 _ _)))
    have S2 : Aside (SWK encF k w0 blk off d (grow (wr.drewN nq) osq)) := S1.out.grown nq osq
    clear l24a l24b hc24 S1
    generalize grow (wr.drewN nq) osq = w2 at S2 ⊢
    clear nq osq
    go_wp2
    go_roundg ((p + q) / 2 - p)
    case measure => omega
    case rel =>
     have E2 : Aside ((s0 < p → d[p - 1]!.1 ≤ d[mid + m - p]!.1) ∧ ((p + q) / 2 < mid → d[mid + m - 1 - (p + q) / 2]!.1 < d[(p + q) / 2]!.1)) := ⟨E1.out.1, fun _ => by rw [← HJ.out]; exact hv⟩
     exact ⟨p, (p + q) / 2, rfl, by rw [show ((p : Int) + (q : Int)) / 2 = (((p + q) / 2 : Nat) : Int) by omega], hmp, by omega, by omega, Nat.le_refl _, S2, E2⟩
   ·have hv0 : True := trivial
    have ea24 : ((jx : Int)).toNat = jx := by omega
    have pa24 : (0 : Int) ≤ (jx : Int) := by omega
    have ba24 : (jx : Int) < (d.size : Int) := by omega
    have ra24 : IntKind.i64.wrap ((jx : Int)) = (jx : Int) := by rw [IntKind.wrap_i64]; omega
    have ea24c : (((p : Int) + (q : Int)) / 2).toNat = (p + q) / 2 := by omega
    have pa24c : (0 : Int) ≤ ((p : Int) + (q : Int)) / 2 := by omega
    have ba24c : ((p : Int) + (q : Int)) / 2 < (d.size : Int) := by omega
    have ra24c : IntKind.i64.wrap (((p : Int) + (q : Int)) / 2) = ((p : Int) + (q : Int)) / 2 := by rw [IntKind.wrap_i64]; omega
    obtain ⟨x24, hx24⟩ : ∃ x, x = d[jx]! := ⟨_, rfl⟩
    obtain ⟨y24, hy24⟩ : ∃ x, x = d[(p + q) / 2]! := ⟨_, rfl⟩
    have l24a := S1.out.ld R (by omega) P (jx) (by omega)
    have l24b := S1.out.ld R (by omega) P ((p + q) / 2) (by omega)
    rw [← hx24] at l24a
    rw [← hy24] at l24b
    have hc24 := S1.out.cmp HC.out (by omega) x24 y24
    have hv24 : ¬ cfF x24 y24 < 0 := by rw [hx24, hy24]; exact fun h => hv ((cf_lt _ _).1 h)
    have hd24 : decide (cfF x24 y24 < 0) = false := decide_eq_false hv24
    clear hx24 hy24
    go_wp2_with fail
    go_quiet_grown (first | (go_at_fn g; refine Calls.grown_of (hc24 _ _)))
    have S2 : Aside (SWK encF k w0 blk off d (grow (wr.drewN nq) osq)) := S1.out.grown nq osq
    clear l24a l24b hc24 S1
    generalize grow (wr.drewN nq) osq = w2 at S2 ⊢
    clear nq osq
    go_wp2
    go_roundg (q - ((p + q) / 2 + 1))
    case measure => omega
    case rel =>
     have E2 : Aside ((s0 < (p + q) / 2 + 1 → d[(p + q) / 2 + 1 - 1]!.1 ≤ d[mid + m - ((p + q) / 2 + 1)]!.1) ∧ (q < mid → d[mid + m - 1 - q]!.1 < d[q]!.1)) := ⟨fun _ => by rw [Nat.add_sub_cancel, show mid + m - ((p + q) / 2 + 1) = jx by rw [HJ.out]; omega]; omega, E1.out.2⟩
     exact ⟨(p + q) / 2 + 1, q, by rw [show ((p : Int) + (q : Int)) / 2 + 1 = (((p + q) / 2 + 1 : Nat) : Int) by omega], rfl, by omega, by omega, hqb, Nat.le_refl _, S2, E2⟩
  ·obtain rfl : p = q := by omega
   have hltz : ¬ (p : Int) < (p : Int) := by omega
   obtain ⟨X1, X2, Y1, Y2, hX, hY, l1, l2, l3, l4, h21, h12⟩ := HL.out.found ham hmb HM.out (Or.inl ⟨hmm, HS0.out, rfl⟩) hmp hqb E1.out.1 E1.out.2
   have lA := HL.out.ea
   have sX := HL.out.sX
   have sY := HL.out.sY
   have hl0 := HL.out.h
   rw [hX] at sX hl0
   rw [hY] at sY hl0
   obtain ⟨e, he⟩ : ∃ e, e = mid + m - p := ⟨_, rfl⟩
   have hez : (mid : Int) + (m : Int) - (p : Int) = (e : Int) := by omega
   rw [← he] at l3 l4
   have hp1 : a ≤ p := by omega
   have hp2 : p ≤ m := by omega
   have hp3 : p ≤ mid := by omega
   have he1 : m ≤ e := by omega
   have he2 : e ≤ b := by omega
   have he3 : mid ≤ e := by omega
   have he4 : e + p = mid + m := by omega
   have LN : Aside (X1.length = p - a ∧ X2.length = m - p ∧ Y1.length = e - m ∧ Y2.length = b - e ∧ a = A.length) := ⟨l1, l2, l3, l4, lA⟩
   have ORD : Aside (Srt (X1 ++ X2) ∧ Srt (Y1 ++ Y2) ∧ (∀ y ∈ Y1, ∀ x ∈ X2, y.1 < x.1) ∧ (∀ x ∈ X1, ∀ y ∈ Y2, x.1 ≤ y.1)) := ⟨sX, sY, h21, h12⟩
   have L0 : Aside (d.toList = A ++ (X1 ++ X2) ++ (Y1 ++ Y2) ++ B) := hl0
   subst hX hY
   clear l1 l2 l3 l4 lA sX sY hl0 h21 h12 he E1
   by_cases hr : p < m ∧ m < e
   ·have hry : (p : Int) < (m : Int) := by omega
    have hrz : (m : Int) < (e : Int) := by omega
    by_cases hs1 : a < p ∧ p < mid
    ·have hs1y : (a : Int) < (p : Int) := by omega
     have hs1z : (p : Int) < (mid : Int) := by omega
     by_cases hsb : mid < e ∧ e < b
     ·have hsby : (mid : Int) < (e : Int) := by omega
      have hsbz : (e : Int) < (b : Int) := by omega
      first
       | (exfalso; omega)
       | (
        have hcall := sw_rotate L g cb blk off cap p m e d0 d (A ++ X1 ++ Y1 ++ X2 ++ Y2 ++ B) w0 wr R hs S1.out hr.1 hr.2 (by omega) (by omega) ⟨A ++ X1, X2, Y1, Y2 ++ B, by rw [L0.out]; simp only [List.append_assoc], LN.out.2.1.symm, LN.out.2.2.1.symm, by have := LN.out; simp; omega, by simp only [List.append_assoc]⟩
        clear S1
        go_wp2_with fail
        refine hcall.mono ?_
        rintro r w1 ⟨rfl, d1, hz1, hl1, S2'⟩
        have S2 : Aside (SWK encF k w0 blk off d1 w1) := S2'
        have L1 : Aside (d1.toList = A ++ X1 ++ Y1 ++ X2 ++ Y2 ++ B) := hl1
        clear hcall hl1 S2'
        have hcall := HIH.out a p mid d1 A X1 Y1 (X2 ++ Y2 ++ B) _ (by omega) (by omega) S2.out hs1.1 hs1.2 (by omega) ⟨by rw [L1.out]; simp only [List.append_assoc], LN.out.2.2.2.2, by have := LN.out; omega, by have := LN.out; omega, ORD.out.1.left, ORD.out.2.1.left⟩
        rw [hz1] at hcall
        clear S2
        go_wp2_with fail
        refine hcall.mono ?_
        rintro r w2 ⟨rfl, d2, hz2, ⟨Z1, hl2, hZ1, hst1⟩, S3'⟩
        have S3 : Aside (SWK encF k w0 blk off d2 w2) := S3'
        have hzl := half_len L1.out hl2 (by omega)
        have L2 : Aside (d2.toList = A ++ Z1 ++ X2 ++ Y2 ++ B ∧ Z1.length = X1.length + Y1.length ∧ Srt Z1 ∧ StbF (X1 ++ Y1) Z1) := ⟨by rw [hl2]; simp only [List.append_assoc], hzl, hZ1, hst1⟩
        clear hcall hl2 hZ1 hst1 S3' hzl
        have hzd : d2.size = d.size := by omega
        have hcall := HIH.out mid e b d2 (A ++ Z1) X2 Y2 B _ (by omega) (by omega) S3.out hsb.1 hsb.2 (by omega) ⟨L2.out.1, by have := LN.out; have := L2.out.2.1; rw [List.length_append]; omega, by have := LN.out; omega, by have := LN.out; omega, ORD.out.1.right, ORD.out.2.1.right⟩
        rw [hzd] at hcall
        clear S3
        go_wp2_with fail
        refine hcall.mono ?_
        rintro r w3 ⟨rfl, d3, hz3, ⟨Z2, hl3, hZ2, hst2⟩, S4'⟩
        have S4 : Aside (SWK encF k w0 blk off d3 w3) := S4'
        have L3 : Aside (SyE A (X1 ++ X2) (Y1 ++ Y2) B d3) := sym_end ORD.out.1 ORD.out.2.1 ORD.out.2.2.1 ORD.out.2.2.2 L2.out.2.2 ⟨hZ2, hst2⟩ hl3
        clear hcall hl3 hZ2 hst2 S4'
        go_wp2_with fail
        go_end0
        exact ⟨rfl, d3, by omega, L3.out, S4.out⟩)
     ·by_cases hsbw : mid < e
      ·have hsby : (mid : Int) < (e : Int) := by omega
       have hsbz : ¬ (e : Int) < (b : Int) := by omega
       first
        | (exfalso; omega)
        | (
         have hcall := sw_rotate L g cb blk off cap p m e d0 d (A ++ X1 ++ Y1 ++ X2 ++ Y2 ++ B) w0 wr R hs S1.out hr.1 hr.2 (by omega) (by omega) ⟨A ++ X1, X2, Y1, Y2 ++ B, by rw [L0.out]; simp only [List.append_assoc], LN.out.2.1.symm, LN.out.2.2.1.symm, by have := LN.out; simp; omega, by simp only [List.append_assoc]⟩
         clear S1
         go_wp2_with fail
         refine hcall.mono ?_
         rintro r w1 ⟨rfl, d1, hz1, hl1, S2'⟩
         have S2 : Aside (SWK encF k w0 blk off d1 w1) := S2'
         have L1 : Aside (d1.toList = A ++ X1 ++ Y1 ++ X2 ++ Y2 ++ B) := hl1
         clear hcall hl1 S2'
         have hcall := HIH.out a p mid d1 A X1 Y1 (X2 ++ Y2 ++ B) _ (by omega) (by omega) S2.out hs1.1 hs1.2 (by omega) ⟨by rw [L1.out]; simp only [List.append_assoc], LN.out.2.2.2.2, by have := LN.out; omega, by have := LN.out; omega, ORD.out.1.left, ORD.out.2.1.left⟩
         rw [hz1] at hcall
         clear S2
         go_wp2_with fail
         refine hcall.mono ?_
         rintro r w2 ⟨rfl, d2, hz2, ⟨Z1, hl2, hZ1, hst1⟩, S3'⟩
         have S3 : Aside (SWK encF k w0 blk off d2 w2) := S3'
         have hzl := half_len L1.out hl2 (by omega)
         have L2 : Aside (d2.toList = A ++ Z1 ++ X2 ++ Y2 ++ B ∧ Z1.length = X1.length + Y1.length ∧ Srt Z1 ∧ StbF (X1 ++ Y1) Z1) := ⟨by rw [hl2]; simp only [List.append_assoc], hzl, hZ1, hst1⟩
         clear hcall hl2 hZ1 hst1 S3' hzl
         have L3 : Aside (SyE A (X1 ++ X2) (Y1 ++ Y2) B d2) := sym_end ORD.out.1 ORD.out.2.1 ORD.out.2.2.1 ORD.out.2.2.2 L2.out.2.2 ⟨half_same (by have := LN.out; omega) ORD.out.1.right ORD.out.2.1.right, StbF.refl _⟩ (by rw [L2.out.1]; simp only [List.append_assoc])
         go_wp2_with fail
         go_end0
         exact ⟨rfl, d2, by omega, L3.out, S3.out⟩)
      ·have hsby : ¬ (mid : Int) < (e : Int) := by omega
       first
        | (exfalso; omega)
        | (
         have hcall := sw_rotate L g cb blk off cap p m e d0 d (A ++ X1 ++ Y1 ++ X2 ++ Y2 ++ B) w0 wr R hs S1.out hr.1 hr.2 (by omega) (by omega) ⟨A ++ X1, X2, Y1, Y2 ++ B, by rw [L0.out]; simp only [List.append_assoc], LN.out.2.1.symm, LN.out.2.2.1.symm, by have := LN.out; simp; omega, by simp only [List.append_assoc]⟩
         clear S1
         go_wp2_with fail
         refine hcall.mono ?_
         rintro r w1 ⟨rfl, d1, hz1, hl1, S2'⟩
         have S2 : Aside (SWK encF k w0 blk off d1 w1) := S2'
         have L1 : Aside (d1.toList = A ++ X1 ++ Y1 ++ X2 ++ Y2 ++ B) := hl1
         clear hcall hl1 S2'
         have hcall := HIH.out a p mid d1 A X1 Y1 (X2 ++ Y2 ++ B) _ (by omega) (by omega) S2.out hs1.1 hs1.2 (by omega) ⟨by rw [L1.out]; simp only [List.append_assoc], LN.out.2.2.2.2, by have := LN.out; omega, by have := LN.out; omega, ORD.out.1.left, ORD.out.2.1.left⟩
         rw [hz1] at hcall
         clear S2
         go_wp2_with fail
         refine hcall.mono ?_
         rintro r w2 ⟨rfl, d2, hz2, ⟨Z1, hl2, hZ1, hst1⟩, S3'⟩
         have S3 : Aside (SWK encF k w0 blk off d2 w2) := S3'
         have hzl := half_len L1.out hl2 (by omega)
         have L2 : Aside (d2.toList = A ++ Z1 ++ X2 ++ Y2 ++ B ∧ Z1.length = X1.length + Y1.length ∧ Srt Z1 ∧ StbF (X1 ++ Y1) Z1) := ⟨by rw [hl2]; simp only [List.append_assoc], hzl, hZ1, hst1⟩
         clear hcall hl2 hZ1 hst1 S3' hzl
         have L3 : Aside (SyE A (X1 ++ X2) (Y1 ++ Y2) B d2) := sym_end ORD.out.1 ORD.out.2.1 ORD.out.2.2.1 ORD.out.2.2.2 L2.out.2.2 ⟨half_same (by have := LN.out; omega) ORD.out.1.right ORD.out.2.1.right, StbF.refl _⟩ (by rw [L2.out.1]; simp only [List.append_assoc])
         go_wp2_with fail
         go_end0
         exact ⟨rfl, d2, by omega, L3.out, S3.out⟩)
    ·by_cases hs1w : a < p
     ·have hs1y : (a : Int) < (p : Int) := by omega
      have hs1z : ¬ (p : Int) < (mid : Int) := by omega
      by_cases hsb : mid < e ∧ e < b
      ·have hsby : (mid : Int) < (e : Int) := by omega
       have hsbz : (e : Int) < (b : Int) := by omega
       first
        | (exfalso; omega)
        | (
         have hcall := sw_rotate L g cb blk off cap p m e d0 d (A ++ X1 ++ Y1 ++ X2 ++ Y2 ++ B) w0 wr R hs S1.out hr.1 hr.2 (by omega) (by omega) ⟨A ++ X1, X2, Y1, Y2 ++ B, by rw [L0.out]; simp only [List.append_assoc], LN.out.2.1.symm, LN.out.2.2.1.symm, by have := LN.out; simp; omega, by simp only [List.append_assoc]⟩
         clear S1
         go_wp2_with fail
         refine hcall.mono ?_
         rintro r w1 ⟨rfl, d1, hz1, hl1, S2'⟩
         have S2 : Aside (SWK encF k w0 blk off d1 w1) := S2'
         have L1 : Aside (d1.toList = A ++ X1 ++ Y1 ++ X2 ++ Y2 ++ B) := hl1
         clear hcall hl1 S2'
         have L2 : Aside (d1.toList = A ++ (X1 ++ Y1) ++ X2 ++ Y2 ++ B ∧ (X1 ++ Y1).length = X1.length + Y1.length ∧ Srt (X1 ++ Y1) ∧ StbF (X1 ++ Y1) (X1 ++ Y1)) := ⟨by rw [L1.out]; simp only [List.append_assoc], List.length_append, half_same (by have := LN.out; omega) ORD.out.1.left ORD.out.2.1.left, StbF.refl _⟩
         have hzd : d1.size = d.size := by omega
         have hcall := HIH.out mid e b d1 (A ++ (X1 ++ Y1)) X2 Y2 B _ (by omega) (by omega) S2.out hsb.1 hsb.2 (by omega) ⟨L2.out.1, by have := LN.out; have := L2.out.2.1; rw [List.length_append]; omega, by have := LN.out; omega, by have := LN.out; omega, ORD.out.1.right, ORD.out.2.1.right⟩
         rw [hzd] at hcall
         clear S2
         go_wp2_with fail
         refine hcall.mono ?_
         rintro r w3 ⟨rfl, d3, hz3, ⟨Z2, hl3, hZ2, hst2⟩, S4'⟩
         have S4 : Aside (SWK encF k w0 blk off d3 w3) := S4'
         have L3 : Aside (SyE A (X1 ++ X2) (Y1 ++ Y2) B d3) := sym_end ORD.out.1 ORD.out.2.1 ORD.out.2.2.1 ORD.out.2.2.2 L2.out.2.2 ⟨hZ2, hst2⟩ hl3
         clear hcall hl3 hZ2 hst2 S4'
         go_wp2_with fail
         go_end0
         exact ⟨rfl, d3, by omega, L3.out, S4.out⟩)
      ·by_cases hsbw : mid < e
       ·have hsby : (mid : Int) < (e : Int) := by omega
        have hsbz : ¬ (e : Int) < (b : Int) := by omega
        first
         | (exfalso; omega)
         | (
          have hcall := sw_rotate L g cb blk off cap p m e d0 d (A ++ X1 ++ Y1 ++ X2 ++ Y2 ++ B) w0 wr R hs S1.out hr.1 hr.2 (by omega) (by omega) ⟨A ++ X1, X2, Y1, Y2 ++ B, by rw [L0.out]; simp only [List.append_assoc], LN.out.2.1.symm, LN.out.2.2.1.symm, by have := LN.out; simp; omega, by simp only [List.append_assoc]⟩
          clear S1
          go_wp2_with fail
          refine hcall.mono ?_
          rintro r w1 ⟨rfl, d1, hz1, hl1, S2'⟩
          have S2 : Aside (SWK encF k w0 blk off d1 w1) := S2'
          have L1 : Aside (d1.toList = A ++ X1 ++ Y1 ++ X2 ++ Y2 ++ B) := hl1
          clear hcall hl1 S2'
          have L2 : Aside (d1.toList = A ++ (X1 ++ Y1) ++ X2 ++ Y2 ++ B ∧ (X1 ++ Y1).length = X1.length + Y1.length ∧ Srt (X1 ++ Y1) ∧ StbF (X1 ++ Y1) (X1 ++ Y1)) := ⟨by rw [L1.out]; simp only [List.append_assoc], List.length_append, half_same (by have := LN.out; omega) ORD.out.1.left ORD.out.2.1.left, StbF.refl _⟩
          have L3 : Aside (SyE A (X1 ++ X2) (Y1 ++ Y2) B d1) := sym_end ORD.out.1 ORD.out.2.1 ORD.out.2.2.1 ORD.out.2.2.2 L2.out.2.2 ⟨half_same (by have := LN.out; omega) ORD.out.1.right ORD.out.2.1.right, StbF.refl _⟩ (by rw [L2.out.1]; simp only [List.append_assoc])
          go_wp2_with fail
          go_end0
          exact ⟨rfl, d1, by omega, L3.out, S2.out⟩)
       ·have hsby : ¬ (mid : Int) < (e : Int) := by omega
        first
         | (exfalso; omega)
         | (
          have hcall := sw_rotate L g cb blk off cap p m e d0 d (A ++ X1 ++ Y1 ++ X2 ++ Y2 ++ B) w0 wr R hs S1.out hr.1 hr.2 (by omega) (by omega) ⟨A ++ X1, X2, Y1, Y2 ++ B, by rw [L0.out]; simp only [List.append_assoc], LN.out.2.1.symm, LN.out.2.2.1.symm, by have := LN.out; simp; omega, by simp only [List.append_assoc]⟩
          clear S1
          go_wp2_with fail
          refine hcall.mono ?_
          rintro r w1 ⟨rfl, d1, hz1, hl1, S2'⟩
          have S2 : Aside (SWK encF k w0 blk off d1 w1) := S2'
          have L1 : Aside (d1.toList = A ++ X1 ++ Y1 ++ X2 ++ Y2 ++ B) := hl1
          clear hcall hl1 S2'
          have L2 : Aside (d1.toList = A ++ (X1 ++ Y1) ++ X2 ++ Y2 ++ B ∧ (X1 ++ Y1).length = X1.length + Y1.length ∧ Srt (X1 ++ Y1) ∧ StbF (X1 ++ Y1) (X1 ++ Y1)) := ⟨by rw [L1.out]; simp only [List.append_assoc], List.length_append, half_same (by have := LN.out; omega) ORD.out.1.left ORD.out.2.1.left, StbF.refl _⟩
          have L3 : Aside (SyE A (X1 ++ X2) (Y1 ++ Y2) B d1) := sym_end ORD.out.1 ORD.out.2.1 ORD.out.2.2.1 ORD.out.2.2.2 L2.out.2.2 ⟨half_same (by have := LN.out; omega) ORD.out.1.right ORD.out.2.1.right, StbF.refl _⟩ (by rw [L2.out.1]; simp only [List.append_assoc])
          go_wp2_with fail
          go_end0
          exact ⟨rfl, d1, by omega, L3.out, S2.out⟩)
     ·have hs1y : ¬ (a : Int) < (p : Int) := by omega
      by_cases hsb : mid < e ∧ e < b
      ·have hsby : (mid : Int) < (e : Int) := by omega
       have hsbz : (e : Int) < (b : Int) := by omega
       first
        | (exfalso; omega)
        | (
         have hcall := sw_rotate L g cb blk off cap p m e d0 d (A ++ X1 ++ Y1 ++ X2 ++ Y2 ++ B) w0 wr R hs S1.out hr.1 hr.2 (by omega) (by omega) ⟨A ++ X1, X2, Y1, Y2 ++ B, by rw [L0.out]; simp only [List.append_assoc], LN.out.2.1.symm, LN.out.2.2.1.symm, by have := LN.out; simp; omega, by simp only [List.append_assoc]⟩
         clear S1
         go_wp2_with fail
         refine hcall.mono ?_
         rintro r w1 ⟨rfl, d1, hz1, hl1, S2'⟩
         have S2 : Aside (SWK encF k w0 blk off d1 w1) := S2'
         have L1 : Aside (d1.toList = A ++ X1 ++ Y1 ++ X2 ++ Y2 ++ B) := hl1
         clear hcall hl1 S2'
         have L2 : Aside (d1.toList = A ++ (X1 ++ Y1) ++ X2 ++ Y2 ++ B ∧ (X1 ++ Y1).length = X1.length + Y1.length ∧ Srt (X1 ++ Y1) ∧ StbF (X1 ++ Y1) (X1 ++ Y1)) := ⟨by rw [L1.out]; simp only [List.append_assoc], List.length_append, half_same (by have := LN.out; omega) ORD.out.1.left ORD.out.2.1.left, StbF.refl _⟩
         have hzd : d1.size = d.size := by omega
         have hcall := HIH.out mid e b d1 (A ++ (X1 ++ Y1)) X2 Y2 B _ (by omega) (by omega) S2.out hsb.1 hsb.2 (by omega) ⟨L2.out.1, by have := LN.out; have := L2.out.2.1; rw [List.length_append]; omega, by have := LN.out; omega, by have := LN.out; omega, ORD.out.1.right, ORD.out.2.1.right⟩
         rw [hzd] at hcall
         clear S2
         go_wp2_with fail
         refine hcall.mono ?_
         rintro r w3 ⟨rfl, d3, hz3, ⟨Z2, hl3, hZ2, hst2⟩, S4'⟩
         have S4 : Aside (SWK encF k w0 blk off d3 w3) := S4'
         have L3 : Aside (SyE A (X1 ++ X2) (Y1 ++ Y2) B d3) := sym_end ORD.out.1 ORD.out.2.1 ORD.out.2.2.1 ORD.out.2.2.2 L2.out.2.2 ⟨hZ2, hst2⟩ hl3
         clear hcall hl3 hZ2 hst2 S4'
         go_wp2_with fail
         go_end0
         exact ⟨rfl, d3, by omega, L3.out, S4.out⟩)
      ·by_cases hsbw : mid < e
       ·have hsby : (mid : Int) < (e : Int) := by omega
        have hsbz : ¬ (e : Int) < (b : Int) := by omega
        first
         | (exfalso; omega)
         | (
          have hcall := sw_rotate L g cb blk off cap p m e d0 d (A ++ X1 ++ Y1 ++ X2 ++ Y2 ++ B) w0 wr R hs S1.out hr.1 hr.2 (by omega) (by omega) ⟨A ++ X1, X2, Y1, Y2 ++ B, by rw [L0.out]; simp only [List.append_assoc], LN.out.2.1.symm, LN.out.2.2.1.symm, by have := LN.out; simp; omega, by simp only [List.append_assoc]⟩
          clear S1
          go_wp2_with fail
          refine hcall.mono ?_
          rintro r w1 ⟨rfl, d1, hz1, hl1, S2'⟩
          have S2 : Aside (SWK encF k w0 blk off d1 w1) := S2'
          have L1 : Aside (d1.toList = A ++ X1 ++ Y1 ++ X2 ++ Y2 ++ B) := hl1
          clear hcall hl1 S2'
          have L2 : Aside (d1.toList = A ++ (X1 ++ Y1) ++ X2 ++ Y2 ++ B ∧ (X1 ++ Y1).length = X1.length + Y1.length ∧ Srt (X1 ++ Y1) ∧ StbF (X1 ++ Y1) (X1 ++ Y1)) := ⟨by rw [L1.out]; simp only [List.append_assoc], List.length_append, half_same (by have := LN.out; omega) ORD.out.1.left ORD.out.2.1.left, StbF.refl _⟩
          have L3 : Aside (SyE A (X1 ++ X2) (Y1 ++ Y2) B d1) := sym_end ORD.out.1 ORD.out.2.1 ORD.out.2.2.1 ORD.out.2.2.2 L2.out.2.2 ⟨half_same (by have := LN.out; omega) ORD.out.1.right ORD.out.2.1.right, StbF.refl _⟩ (by rw [L2.out.1]; simp only [List.append_assoc])
          go_wp2_with fail
          go_end0
          exact ⟨rfl, d1, by omega, L3.out, S2.out⟩)
       ·have hsby : ¬ (mid : Int) < (e : Int) := by omega
        first
         | (exfalso; omega)
         | (
          have hcall := sw_rotate L g cb blk off cap p m e d0 d (A ++ X1 ++ Y1 ++ X2 ++ Y2 ++ B) w0 wr R hs S1.out hr.1 hr.2 (by omega) (by omega) ⟨A ++ X1, X2, Y1, Y2 ++ B, by rw [L0.out]; simp only [List.append_assoc], LN.out.2.1.symm, LN.out.2.2.1.symm, by have := LN.out; simp; omega, by simp only [List.append_assoc]⟩
          clear S1
          go_wp2_with fail
          refine hcall.mono ?_
          rintro r w1 ⟨rfl, d1, hz1, hl1, S2'⟩
          have S2 : Aside (SWK encF k w0 blk off d1 w1) := S2'
          have L1 : Aside (d1.toList = A ++ X1 ++ Y1 ++ X2 ++ Y2 ++ B) := hl1
          clear hcall hl1 S2'
          have L2 : Aside (d1.toList = A ++ (X1 ++ Y1) ++ X2 ++ Y2 ++ B ∧ (X1 ++ Y1).length = X1.length + Y1.length ∧ Srt (X1 ++ Y1) ∧ StbF (X1 ++ Y1) (X1 ++ Y1)) := ⟨by rw [L1.out]; simp only [List.append_assoc], List.length_append, half_same (by have := LN.out; omega) ORD.out.1.left ORD.out.2.1.left, StbF.refl _⟩
          have L3 : Aside (SyE A (X1 ++ X2) (Y1 ++ Y2) B d1) := sym_end ORD.out.1 ORD.out.2.1 ORD.out.2.2.1 ORD.out.2.2.2 L2.out.2.2 ⟨half_same (by have := LN.out; omega) ORD.out.1.right ORD.out.2.1.right, StbF.refl _⟩ (by rw [L2.out.1]; simp only [List.append_assoc])
          go_wp2_with fail
          go_end0
          exact ⟨rfl, d1, by omega, L3.out, S2.out⟩)
   ·by_cases hrw : p < m
    ·have hry : (p : Int) < (m : Int) := by omega
     have hrz : ¬ (m : Int) < (e : Int) := by omega
     by_cases hs1 : a < p ∧ p < mid
     ·have hs1y : (a : Int) < (p : Int) := by omega
      have hs1z : (p : Int) < (mid : Int) := by omega
      by_cases hsb : mid < e ∧ e < b
      ·have hsby : (mid : Int) < (e : Int) := by omega
       have hsbz : (e : Int) < (b : Int) := by omega
       first
        | (exfalso; omega)
        | (
         have L1 : Aside (d.toList = A ++ X1 ++ Y1 ++ X2 ++ Y2 ++ B) := L0.out.trans (cross_same (by have := LN.out; omega))
         have hcall := HIH.out a p mid d A X1 Y1 (X2 ++ Y2 ++ B) _ (by omega) (by omega) S1.out hs1.1 hs1.2 (by omega) ⟨by rw [L1.out]; simp only [List.append_assoc], LN.out.2.2.2.2, by have := LN.out; omega, by have := LN.out; omega, ORD.out.1.left, ORD.out.2.1.left⟩
         clear S1
         go_wp2_with fail
         refine hcall.mono ?_
         rintro r w2 ⟨rfl, d2, hz2, ⟨Z1, hl2, hZ1, hst1⟩, S3'⟩
         have S3 : Aside (SWK encF k w0 blk off d2 w2) := S3'
         have hzl := half_len L1.out hl2 (by omega)
         have L2 : Aside (d2.toList = A ++ Z1 ++ X2 ++ Y2 ++ B ∧ Z1.length = X1.length + Y1.length ∧ Srt Z1 ∧ StbF (X1 ++ Y1) Z1) := ⟨by rw [hl2]; simp only [List.append_assoc], hzl, hZ1, hst1⟩
         clear hcall hl2 hZ1 hst1 S3' hzl
         have hzd : d2.size = d.size := by omega
         have hcall := HIH.out mid e b d2 (A ++ Z1) X2 Y2 B _ (by omega) (by omega) S3.out hsb.1 hsb.2 (by omega) ⟨L2.out.1, by have := LN.out; have := L2.out.2.1; rw [List.length_append]; omega, by have := LN.out; omega, by have := LN.out; omega, ORD.out.1.right, ORD.out.2.1.right⟩
         rw [hzd] at hcall
         clear S3
         go_wp2_with fail
         refine hcall.mono ?_
         rintro r w3 ⟨rfl, d3, hz3, ⟨Z2, hl3, hZ2, hst2⟩, S4'⟩
         have S4 : Aside (SWK encF k w0 blk off d3 w3) := S4'
         have L3 : Aside (SyE A (X1 ++ X2) (Y1 ++ Y2) B d3) := sym_end ORD.out.1 ORD.out.2.1 ORD.out.2.2.1 ORD.out.2.2.2 L2.out.2.2 ⟨hZ2, hst2⟩ hl3
         clear hcall hl3 hZ2 hst2 S4'
         go_wp2_with fail
         go_end0
         exact ⟨rfl, d3, by omega, L3.out, S4.out⟩)
      ·by_cases hsbw : mid < e
       ·have hsby : (mid : Int) < (e : Int) := by omega
        have hsbz : ¬ (e : Int) < (b : Int) := by omega
        first
         | (exfalso; omega)
         | (
          have L1 : Aside (d.toList = A ++ X1 ++ Y1 ++ X2 ++ Y2 ++ B) := L0.out.trans (cross_same (by have := LN.out; omega))
          have hcall := HIH.out a p mid d A X1 Y1 (X2 ++ Y2 ++ B) _ (by omega) (by omega) S1.out hs1.1 hs1.2 (by omega) ⟨by rw [L1.out]; simp only [List.append_assoc], LN.out.2.2.2.2, by have := LN.out; omega, by have := LN.out; omega, ORD.out.1.left, ORD.out.2.1.left⟩
          clear S1
          go_wp2_with fail
          refine hcall.mono ?_
          rintro r w2 ⟨rfl, d2, hz2, ⟨Z1, hl2, hZ1, hst1⟩, S3'⟩
          have S3 : Aside (SWK encF k w0 blk off d2 w2) := S3'
          have hzl := half_len L1.out hl2 (by omega)
          have L2 : Aside (d2.toList = A ++ Z1 ++ X2 ++ Y2 ++ B ∧ Z1.length = X1.length + Y1.length ∧ Srt Z1 ∧ StbF (X1 ++ Y1) Z1) := ⟨by rw [hl2]; simp only [List.append_assoc], hzl, hZ1, hst1⟩
          clear hcall hl2 hZ1 hst1 S3' hzl
          have L3 : Aside (SyE A (X1 ++ X2) (Y1 ++ Y2) B d2) := sym_end ORD.out.1 ORD.out.2.1 ORD.out.2.2.1 ORD.out.2.2.2 L2.out.2.2 ⟨half_same (by have := LN.out; omega) ORD.out.1.right ORD.out.2.1.right, StbF.refl _⟩ (by rw [L2.out.1]; simp only [List.append_assoc])
          go_wp2_with fail
          go_end0
          exact ⟨rfl, d2, by omega, L3.out, S3.out⟩)
       ·have hsby : ¬ (mid : Int) < (e : Int) := by omega
        first
         | (exfalso; omega)
         | (
          have L1 : Aside (d.toList = A ++ X1 ++ Y1 ++ X2 ++ Y2 ++ B) := L0.out.trans (cross_same (by have := LN.out; omega))
          have hcall := HIH.out a p mid d A X1 Y1 (X2 ++ Y2 ++ B) _ (by omega) (by omega) S1.out hs1.1 hs1.2 (by omega) ⟨by rw [L1.out]; simp only [List.append_assoc], LN.out.2.2.2.2, by have := LN.out; omega, by have := LN.out; omega, ORD.out.1.left, ORD.out.2.1.left⟩
          clear S1
          go_wp2_with fail
          refine hcall.mono ?_
          rintro r w2 ⟨rfl, d2, hz2, ⟨Z1, hl2, hZ1, hst1⟩, S3'⟩
          have S3 : Aside (SWK encF k w0 blk off d2 w2) := S3'
          have hzl := half_len L1.out hl2 (by omega)
          have L2 : Aside (d2.toList = A ++ Z1 ++ X2 ++ Y2 ++ B ∧ Z1.length = X1.length + Y1.length ∧ Srt Z1 ∧ StbF (X1 ++ Y1) Z1) := ⟨by rw [hl2]; simp only [List.append_assoc], hzl, hZ1, hst1⟩
          clear hcall hl2 hZ1 hst1 S3' hzl
          have L3 : Aside (SyE A (X1 ++ X2) (Y1 ++ Y2) B d2) := sym_end ORD.out.1 ORD.out.2.1 ORD.out.2.2.1 ORD.out.2.2.2 L2.out.2.2 ⟨half_same (by have := LN.out; omega) ORD.out.1.right ORD.out.2.1.right, StbF.refl _⟩ (by rw [L2.out.1]; simp only [List.append_assoc])
          go_wp2_with fail
          go_end0
          exact ⟨rfl, d2, by omega, L3.out, S3.out⟩)
     ·by_cases hs1w : a < p
      ·have hs1y : (a : Int) < (p : Int) := by omega
       have hs1z : ¬ (p : Int) < (mid : Int) := by omega
       by_cases hsb : mid < e ∧ e < b
       ·have hsby : (mid : Int) < (e : Int) := by omega
        have hsbz : (e : Int) < (b : Int) := by omega
        first
         | (exfalso; omega)
         | (
          have L1 : Aside (d.toList = A ++ X1 ++ Y1 ++ X2 ++ Y2 ++ B) := L0.out.trans (cross_same (by have := LN.out; omega))
          have L2 : Aside (d.toList = A ++ (X1 ++ Y1) ++ X2 ++ Y2 ++ B ∧ (X1 ++ Y1).length = X1.length + Y1.length ∧ Srt (X1 ++ Y1) ∧ StbF (X1 ++ Y1) (X1 ++ Y1)) := ⟨by rw [L1.out]; simp only [List.append_assoc], List.length_append, half_same (by have := LN.out; omega) ORD.out.1.left ORD.out.2.1.left, StbF.refl _⟩
          have hzd : d.size = d.size := by omega
          have hcall := HIH.out mid e b d (A ++ (X1 ++ Y1)) X2 Y2 B _ (by omega) (by omega) S1.out hsb.1 hsb.2 (by omega) ⟨L2.out.1, by have := LN.out; have := L2.out.2.1; rw [List.length_append]; omega, by have := LN.out; omega, by have := LN.out; omega, ORD.out.1.right, ORD.out.2.1.right⟩
          clear S1
          go_wp2_with fail
          refine hcall.mono ?_
          rintro r w3 ⟨rfl, d3, hz3, ⟨Z2, hl3, hZ2, hst2⟩, S4'⟩
          have S4 : Aside (SWK encF k w0 blk off d3 w3) := S4'
          have L3 : Aside (SyE A (X1 ++ X2) (Y1 ++ Y2) B d3) := sym_end ORD.out.1 ORD.out.2.1 ORD.out.2.2.1 ORD.out.2.2.2 L2.out.2.2 ⟨hZ2, hst2⟩ hl3
          clear hcall hl3 hZ2 hst2 S4'
          go_wp2_with fail
          go_end0
          exact ⟨rfl, d3, by omega, L3.out, S4.out⟩)
       ·by_cases hsbw : mid < e
        ·have hsby : (mid : Int) < (e : Int) := by omega
         have hsbz : ¬ (e : Int) < (b : Int) := by omega
         first
          | (exfalso; omega)
          | (
           have L1 : Aside (d.toList = A ++ X1 ++ Y1 ++ X2 ++ Y2 ++ B) := L0.out.trans (cross_same (by have := LN.out; omega))
           have L2 : Aside (d.toList = A ++ (X1 ++ Y1) ++ X2 ++ Y2 ++ B ∧ (X1 ++ Y1).length = X1.length + Y1.length ∧ Srt (X1 ++ Y1) ∧ StbF (X1 ++ Y1) (X1 ++ Y1)) := ⟨by rw [L1.out]; simp only [List.append_assoc], List.length_append, half_same (by have := LN.out; omega) ORD.out.1.left ORD.out.2.1.left, StbF.refl _⟩
           have L3 : Aside (SyE A (X1 ++ X2) (Y1 ++ Y2) B d) := sym_end ORD.out.1 ORD.out.2.1 ORD.out.2.2.1 ORD.out.2.2.2 L2.out.2.2 ⟨half_same (by have := LN.out; omega) ORD.out.1.right ORD.out.2.1.right, StbF.refl _⟩ (by rw [L2.out.1]; simp only [List.append_assoc])
           go_wp2_with fail
           go_end0
           exact ⟨rfl, d, by omega, L3.out, S1.out⟩)
        ·have hsby : ¬ (mid : Int) < (e : Int) := by omega
         first
          | (exfalso; omega)
          | (
           have L1 : Aside (d.toList = A ++ X1 ++ Y1 ++ X2 ++ Y2 ++ B) := L0.out.trans (cross_same (by have := LN.out; omega))
           have L2 : Aside (d.toList = A ++ (X1 ++ Y1) ++ X2 ++ Y2 ++ B ∧ (X1 ++ Y1).length = X1.length + Y1.length ∧ Srt (X1 ++ Y1) ∧ StbF (X1 ++ Y1) (X1 ++ Y1)) := ⟨by rw [L1.out]; simp only [List.append_assoc], List.length_append, half_same (by have := LN.out; omega) ORD.out.1.left ORD.out.2.1.left, StbF.refl _⟩
           have L3 : Aside (SyE A (X1 ++ X2) (Y1 ++ Y2) B d) := sym_end ORD.out.1 ORD.out.2.1 ORD.out.2.2.1 ORD.out.2.2.2 L2.out.2.2 ⟨half_same (by have := LN.out; omega) ORD.out.1.right ORD.out.2.1.right, StbF.refl _⟩ (by rw [L2.out.1]; simp only [List.append_assoc])
           go_wp2_with fail
           go_end0
           exact ⟨rfl, d, by omega, L3.out, S1.out⟩)
      ·have hs1y : ¬ (a : Int) < (p : Int) := by omega
       by_cases hsb : mid < e ∧ e < b
       ·have hsby : (mid : Int) < (e : Int) := by omega
        have hsbz : (e : Int) < (b : Int) := by omega
        first
         | (exfalso; omega)
         | (
          have L1 : Aside (d.toList = A ++ X1 ++ Y1 ++ X2 ++ Y2 ++ B) := L0.out.trans (cross_same (by have := LN.out; omega))
          have L2 : Aside (d.toList = A ++ (X1 ++ Y1) ++ X2 ++ Y2 ++ B ∧ (X1 ++ Y1).length = X1.length + Y1.length ∧ Srt (X1 ++ Y1) ∧ StbF (X1 ++ Y1) (X1 ++ Y1)) := ⟨by rw [L1.out]; simp only [List.append_assoc], List.length_append, half_same (by have := LN.out; omega) ORD.out.1.left ORD.out.2.1.left, StbF.refl _⟩
          have hzd : d.size = d.size := by omega
          have hcall := HIH.out mid e b d (A ++ (X1 ++ Y1)) X2 Y2 B _ (by omega) (by omega) S1.out hsb.1 hsb.2 (by omega) ⟨L2.out.1, by have := LN.out; have := L2.out.2.1; rw [List.length_append]; omega, by have := LN.out; omega, by have := LN.out; omega, ORD.out.1.right, ORD.out.2.1.right⟩
          clear S1
          go_wp2_with fail
          refine hcall.mono ?_
          rintro r w3 ⟨rfl, d3, hz3, ⟨Z2, hl3, hZ2, hst2⟩, S4'⟩
          have S4 : Aside (SWK encF k w0 blk off d3 w3) := S4'
          have L3 : Aside (SyE A (X1 ++ X2) (Y1 ++ Y2) B d3) := sym_end ORD.out.1 ORD.out.2.1 ORD.out.2.2.1 ORD.out.2.2.2 L2.out.2.2 ⟨hZ2, hst2⟩ hl3
          clear hcall hl3 hZ2 hst2 S4'
          go_wp2_with fail
          go_end0
          exact ⟨rfl, d3, by omega, L3.out, S4.out⟩)
       ·by_cases hsbw : mid < e
        ·have hsby : (mid : Int) < (e : Int) := by omega
         have hsbz : ¬ (e : Int) < (b : Int) := by omega
         first
          | (exfalso; omega)
          | (
           have L1 : Aside (d.toList = A ++ X1 ++ Y1 ++ X2 ++ Y2 ++ B) := L0.out.trans (cross_same (by have := LN.out; omega))
           have L2 : Aside (d.toList = A ++ (X1 ++ Y1) ++ X2 ++ Y2 ++ B ∧ (X1 ++ Y1).length = X1.length + Y1.length ∧ Srt (X1 ++ Y1) ∧ StbF (X1 ++ Y1) (X1 ++ Y1)) := ⟨by rw [L1.out]; simp only [List.append_assoc], List.length_append, half_same (by have := LN.out; omega) ORD.out.1.left ORD.out.2.1.left, StbF.refl _⟩
           have L3 : Aside (SyE A (X1 ++ X2) (Y1 ++ Y2) B d) := sym_end ORD.out.1 ORD.out.2.1 ORD.out.2.2.1 ORD.out.2.2.2 L2.out.2.2 ⟨half_same (by have := LN.out; omega) ORD.out.1.right ORD.out.2.1.right, StbF.refl _⟩ (by rw [L2.out.1]; simp only [List.append_assoc])
           go_wp2_with fail
           go_end0
           exact ⟨rfl, d, by omega, L3.out, S1.out⟩)
        ·have hsby : ¬ (mid : Int) < (e : Int) := by omega
         first
          | (exfalso; omega)
          | (
           have L1 : Aside (d.toList = A ++ X1 ++ Y1 ++ X2 ++ Y2 ++ B) := L0.out.trans (cross_same (by have := LN.out; omega))
           have L2 : Aside (d.toList = A ++ (X1 ++ Y1) ++ X2 ++ Y2 ++ B ∧ (X1 ++ Y1).length = X1.length + Y1.length ∧ Srt (X1 ++ Y1) ∧ StbF (X1 ++ Y1) (X1 ++ Y1)) := ⟨by rw [L1.out]; simp only [List.append_assoc], List.length_append, half_same (by have := LN.out; omega) ORD.out.1.left ORD.out.2.1.left, StbF.refl _⟩
           have L3 : Aside (SyE A (X1 ++ X2) (Y1 ++ Y2) B d) := sym_end ORD.out.1 ORD.out.2.1 ORD.out.2.2.1 ORD.out.2.2.2 L2.out.2.2 ⟨half_same (by have := LN.out; omega) ORD.out.1.right ORD.out.2.1.right, StbF.refl _⟩ (by rw [L2.out.1]; simp only [List.append_assoc])
           go_wp2_with fail
           go_end0
           exact ⟨rfl, d, by omega, L3.out, S1.out⟩)
    ·have hry : ¬ (p : Int) < (m : Int) := by omega
     by_cases hs1 : a < p ∧ p < mid
     ·have hs1y : (a : Int) < (p : Int) := by omega
      have hs1z : (p : Int) < (mid : Int) := by omega
      by_cases hsb : mid < e ∧ e < b
      ·have hsby : (mid : Int) < (e : Int) := by omega
       have hsbz : (e : Int) < (b : Int) := by omega
       first
        | (exfalso; omega)
        | (
         have L1 : Aside (d.toList = A ++ X1 ++ Y1 ++ X2 ++ Y2 ++ B) := L0.out.trans (cross_same (by have := LN.out; omega))
         have hcall := HIH.out a p mid d A X1 Y1 (X2 ++ Y2 ++ B) _ (by omega) (by omega) S1.out hs1.1 hs1.2 (by omega) ⟨by rw [L1.out]; simp only [List.append_assoc], LN.out.2.2.2.2, by have := LN.out; omega, by have := LN.out; omega, ORD.out.1.left, ORD.out.2.1.left⟩
         clear S1
         go_wp2_with fail
         refine hcall.mono ?_
         rintro r w2 ⟨rfl, d2, hz2, ⟨Z1, hl2, hZ1, hst1⟩, S3'⟩
         have S3 : Aside (SWK encF k w0 blk off d2 w2) := S3'
         have hzl := half_len L1.out hl2 (by omega)
         have L2 : Aside (d2.toList = A ++ Z1 ++ X2 ++ Y2 ++ B ∧ Z1.length = X1.length + Y1.length ∧ Srt Z1 ∧ StbF (X1 ++ Y1) Z1) := ⟨by rw [hl2]; simp only [List.append_assoc], hzl, hZ1, hst1⟩
         clear hcall hl2 hZ1 hst1 S3' hzl
         have hzd : d2.size = d.size := by omega
         have hcall := HIH.out mid e b d2 (A ++ Z1) X2 Y2 B _ (by omega) (by omega) S3.out hsb.1 hsb.2 (by omega) ⟨L2.out.1, by have := LN.out; have := L2.out.2.1; rw [List.length_append]; omega, by have := LN.out; omega, by have := LN.out; omega, ORD.out.1.right, ORD.out.2.1.right⟩
         rw [hzd] at hcall
         clear S3
         go_wp2_with fail
         refine hcall.mono ?_
         rintro r w3 ⟨rfl, d3, hz3, ⟨Z2, hl3, hZ2, hst2⟩, S4'⟩
         have S4 : Aside (SWK encF k w0 blk off d3 w3) := S4'
         have L3 : Aside (SyE A (X1 ++ X2) (Y1 ++ Y2) B d3) := sym_end ORD.out.1 ORD.out.2.1 ORD.out.2.2.1 ORD.out.2.2.2 L2.out.2.2 ⟨hZ2, hst2⟩ hl3
         clear hcall hl3 hZ2 hst2 S4'
         go_wp2_with fail
         go_end0
         exact ⟨rfl, d3, by omega, L3.out, S4.out⟩)
      ·by_cases hsbw : mid < e
       ·have hsby : (mid : Int) < (e : Int) := by omega
        have hsbz : ¬ (e : Int) < (b : Int) := by omega
        first
         | (exfalso; omega)
         | (
          have L1 : Aside (d.toList = A ++ X1 ++ Y1 ++ X2 ++ Y2 ++ B) := L0.out.trans (cross_same (by have := LN.out; omega))
          have hcall := HIH.out a p mid d A X1 Y1 (X2 ++ Y2 ++ B) _ (by omega) (by omega) S1.out hs1.1 hs1.2 (by omega) ⟨by rw [L1.out]; simp only [List.append_assoc], LN.out.2.2.2.2, by have := LN.out; omega, by have := LN.out; omega, ORD.out.1.left, ORD.out.2.1.left⟩
          clear S1
          go_wp2_with fail
          refine hcall.mono ?_
          rintro r w2 ⟨rfl, d2, hz2, ⟨Z1, hl2, hZ1, hst1⟩, S3'⟩
          have S3 : Aside (SWK encF k w0 blk off d2 w2) := S3'
          have hzl := half_len L1.out hl2 (by omega)
          have L2 : Aside (d2.toList = A ++ Z1 ++ X2 ++ Y2 ++ B ∧ Z1.length = X1.length + Y1.length ∧ Srt Z1 ∧ StbF (X1 ++ Y1) Z1) := ⟨by rw [hl2]; simp only [List.append_assoc], hzl, hZ1, hst1⟩
          clear hcall hl2 hZ1 hst1 S3' hzl
          have L3 : Aside (SyE A (X1 ++ X2) (Y1 ++ Y2) B d2) := sym_end ORD.out.1 ORD.out.2.1 ORD.out.2.2.1 ORD.out.2.2.2 L2.out.2.2 ⟨half_same (by have := LN.out; omega) ORD.out.1.right ORD.out.2.1.right, StbF.refl _⟩ (by rw [L2.out.1]; simp only [List.append_assoc])
          go_wp2_with fail
          go_end0
          exact ⟨rfl, d2, by omega, L3.out, S3.out⟩)
       ·have hsby : ¬ (mid : Int) < (e : Int) := by omega
        first
         | (exfalso; omega)
         | (
          have L1 : Aside (d.toList = A ++ X1 ++ Y1 ++ X2 ++ Y2 ++ B) := L0.out.trans (cross_same (by have := LN.out; omega))
          have hcall := HIH.out a p mid d A X1 Y1 (X2 ++ Y2 ++ B) _ (by omega) (by omega) S1.out hs1.1 hs1.2 (by omega) ⟨by rw [L1.out]; simp only [List.append_assoc], LN.out.2.2.2.2, by have := LN.out; omega, by have := LN.out; omega, ORD.out.1.left, ORD.out.2.1.left⟩
          clear S1
          go_wp2_with fail
          refine hcall.mono ?_
          rintro r w2 ⟨rfl, d2, hz2, ⟨Z1, hl2, hZ1, hst1⟩, S3'⟩
          have S3 : Aside (SWK encF k w0 blk off d2 w2) := S3'
          have hzl := half_len L1.out hl2 (by omega)
          have L2 : Aside (d2.toList = A ++ Z1 ++ X2 ++ Y2 ++ B ∧ Z1.length = X1.length + Y1.length ∧ Srt Z1 ∧ StbF (X1 ++ Y1) Z1) := ⟨by rw [hl2]; simp only [List.append_assoc], hzl, hZ1, hst1⟩
          clear hcall hl2 hZ1 hst1 S3' hzl
          have L3 : Aside (SyE A (X1 ++ X2) (Y1 ++ Y2) B d2) := sym_end ORD.out.1 ORD.out.2.1 ORD.out.2.2.1 ORD.out.2.2.2 L2.out.2.2 ⟨half_same (by have := LN.out; omega) ORD.out.1.right ORD.out.2.1.right, StbF.refl _⟩ (by rw [L2.out.1]; simp only [List.append_assoc])
          go_wp2_with fail
          go_end0
          exact ⟨rfl, d2, by omega, L3.out, S3.out⟩)
     ·by_cases hs1w : a < p
      ·have hs1y : (a : Int) < (p : Int) := by omega
       have hs1z : ¬ (p : Int) < (mid : Int) := by omega
       by_cases hsb : mid < e ∧ e < b
       ·have hsby : (mid : Int) < (e : Int) := by omega
        have hsbz : (e : Int) < (b : Int) := by omega
        first
         | (exfalso; omega)
         | (
          have L1 : Aside (d.toList = A ++ X1 ++ Y1 ++ X2 ++ Y2 ++ B) := L0.out.trans (cross_same (by have := LN.out; omega))
          have L2 : Aside (d.toList = A ++ (X1 ++ Y1) ++ X2 ++ Y2 ++ B ∧ (X1 ++ Y1).length = X1.length + Y1.length ∧ Srt (X1 ++ Y1) ∧ StbF (X1 ++ Y1) (X1 ++ Y1)) := ⟨by rw [L1.out]; simp only [List.append_assoc], List.length_append, half_same (by have := LN.out; omega) ORD.out.1.left ORD.out.2.1.left, StbF.refl _⟩
          have hzd : d.size = d.size := by omega
          have hcall := HIH.out mid e b d (A ++ (X1 ++ Y1)) X2 Y2 B _ (by omega) (by omega) S1.out hsb.1 hsb.2 (by omega) ⟨L2.out.1, by have := LN.out; have := L2.out.2.1; rw [List.length_append]; omega, by have := LN.out; omega, by have := LN.out; omega, ORD.out.1.right, ORD.out.2.1.right⟩
          clear S1
          go_wp2_with fail
          refine hcall.mono ?_
          rintro r w3 ⟨rfl, d3, hz3, ⟨Z2, hl3, hZ2, hst2⟩, S4'⟩
          have S4 : Aside (SWK encF k w0 blk off d3 w3) := S4'
          have L3 : Aside (SyE A (X1 ++ X2) (Y1 ++ Y2) B d3) := sym_end ORD.out.1 ORD.out.2.1 ORD.out.2.2.1 ORD.out.2.2.2 L2.out.2.2 ⟨hZ2, hst2⟩ hl3
          clear hcall hl3 hZ2 hst2 S4'
          go_wp2_with fail
          go_end0
          exact ⟨rfl, d3, by omega, L3.out, S4.out⟩)
       ·by_cases hsbw : mid < e
        ·have hsby : (mid : Int) < (e : Int) := by omega
         have hsbz : ¬ (e : Int) < (b : Int) := by omega
         first
          | (exfalso; omega)
          | (
           have L1 : Aside (d.toList = A ++ X1 ++ Y1 ++ X2 ++ Y2 ++ B) := L0.out.trans (cross_same (by have := LN.out; omega))
           have L2 : Aside (d.toList = A ++ (X1 ++ Y1) ++ X2 ++ Y2 ++ B ∧ (X1 ++ Y1).length = X1.length + Y1.length ∧ Srt (X1 ++ Y1) ∧ StbF (X1 ++ Y1) (X1 ++ Y1)) := ⟨by rw [L1.out]; simp only [List.append_assoc], List.length_append, half_same (by have := LN.out; omega) ORD.out.1.left ORD.out.2.1.left, StbF.refl _⟩
           have L3 : Aside (SyE A (X1 ++ X2) (Y1 ++ Y2) B d) := sym_end ORD.out.1 ORD.out.2.1 ORD.out.2.2.1 ORD.out.2.2.2 L2.out.2.2 ⟨half_same (by have := LN.out; omega) ORD.out.1.right ORD.out.2.1.right, StbF.refl _⟩ (by rw [L2.out.1]; simp only [List.append_assoc])
           go_wp2_with fail
           go_end0
           exact ⟨rfl, d, by omega, L3.out, S1.out⟩)
        ·have hsby : ¬ (mid : Int) < (e : Int) := by omega
         first
          | (exfalso; omega)
          | (
           have L1 : Aside (d.toList = A ++ X1 ++ Y1 ++ X2 ++ Y2 ++ B) := L0.out.trans (cross_same (by have := LN.out; omega))
           have L2 : Aside (d.toList = A ++ (X1 ++ Y1) ++ X2 ++ Y2 ++ B ∧ (X1 ++ Y1).length = X1.length + Y1.length ∧ Srt (X1 ++ Y1) ∧ StbF (X1 ++ Y1) (X1 ++ Y1)) := ⟨by rw [L1.out]; simp only [List.append_assoc], List.length_append, half_same (by have := LN.out; omega) ORD.out.1.left ORD.out.2.1.left, StbF.refl _⟩
           have L3 : Aside (SyE A (X1 ++ X2) (Y1 ++ Y2) B d) := sym_end ORD.out.1 ORD.out.2.1 ORD.out.2.2.1 ORD.out.2.2.2 L2.out.2.2 ⟨half_same (by have := LN.out; omega) ORD.out.1.right ORD.out.2.1.right, StbF.refl _⟩ (by rw [L2.out.1]; simp only [List.append_assoc])
           go_wp2_with fail
           go_end0
           exact ⟨rfl, d, by omega, L3.out, S1.out⟩)
      ·have hs1y : ¬ (a : Int) < (p : Int) := by omega
       by_cases hsb : mid < e ∧ e < b
       ·have hsby : (mid : Int) < (e : Int) := by omega
        have hsbz : (e : Int) < (b : Int) := by omega
        first
         | (exfalso; omega)
         | (
          have L1 : Aside (d.toList = A ++ X1 ++ Y1 ++ X2 ++ Y2 ++ B) := L0.out.trans (cross_same (by have := LN.out; omega))
          have L2 : Aside (d.toList = A ++ (X1 ++ Y1) ++ X2 ++ Y2 ++ B ∧ (X1 ++ Y1).length = X1.length + Y1.length ∧ Srt (X1 ++ Y1) ∧ StbF (X1 ++ Y1) (X1 ++ Y1)) := ⟨by rw [L1.out]; simp only [List.append_assoc], List.length_append, half_same (by have := LN.out; omega) ORD.out.1.left ORD.out.2.1.left, StbF.refl _⟩
          have hzd : d.size = d.size := by omega
          have hcall := HIH.out mid e b d (A ++ (X1 ++ Y1)) X2 Y2 B _ (by omega) (by omega) S1.out hsb.1 hsb.2 (by omega) ⟨L2.out.1, by have := LN.out; have := L2.out.2.1; rw [List.length_append]; omega, by have := LN.out; omega, by have := LN.out; omega, ORD.out.1.right, ORD.out.2.1.right⟩
          clear S1
          go_wp2_with fail
          refine hcall.mono ?_
          rintro r w3 ⟨rfl, d3, hz3, ⟨Z2, hl3, hZ2, hst2⟩, S4'⟩
          have S4 : Aside (SWK encF k w0 blk off d3 w3) := S4'
          have L3 : Aside (SyE A (X1 ++ X2) (Y1 ++ Y2) B d3) := sym_end ORD.out.1 ORD.out.2.1 ORD.out.2.2.1 ORD.out.2.2.2 L2.out.2.2 ⟨hZ2, hst2⟩ hl3
          clear hcall hl3 hZ2 hst2 S4'
          go_wp2_with fail
          go_end0
          exact ⟨rfl, d3, by omega, L3.out, S4.out⟩)
       ·by_cases hsbw : mid < e
        ·have hsby : (mid : Int) < (e : Int) := by omega
         have hsbz : ¬ (e : Int) < (b : Int) := by omega
         first
          | (exfalso; omega)
          | (
           have L1 : Aside (d.toList = A ++ X1 ++ Y1 ++ X2 ++ Y2 ++ B) := L0.out.trans (cross_same (by have := LN.out; omega))
           have L2 : Aside (d.toList = A ++ (X1 ++ Y1) ++ X2 ++ Y2 ++ B ∧ (X1 ++ Y1).length = X1.length + Y1.length ∧ Srt (X1 ++ Y1) ∧ StbF (X1 ++ Y1) (X1 ++ Y1)) := ⟨by rw [L1.out]; simp only [List.append_assoc], List.length_append, half_same (by have := LN.out; omega) ORD.out.1.left ORD.out.2.1.left, StbF.refl _⟩
           have L3 : Aside (SyE A (X1 ++ X2) (Y1 ++ Y2) B d) := sym_end ORD.out.1 ORD.out.2.1 ORD.out.2.2.1 ORD.out.2.2.2 L2.out.2.2 ⟨half_same (by have := LN.out; omega) ORD.out.1.right ORD.out.2.1.right, StbF.refl _⟩ (by rw [L2.out.1]; simp only [List.append_assoc])
           go_wp2_with fail
           go_end0
           exact ⟨rfl, d, by omega, L3.out, S1.out⟩)
        ·have hsby : ¬ (mid : Int) < (e : Int) := by omega
         first
          | (exfalso; omega)
          | (
           have L1 : Aside (d.toList = A ++ X1 ++ Y1 ++ X2 ++ Y2 ++ B) := L0.out.trans (cross_same (by have := LN.out; omega))
           have L2 : Aside (d.toList = A ++ (X1 ++ Y1) ++ X2 ++ Y2 ++ B ∧ (X1 ++ Y1).length = X1.length + Y1.length ∧ Srt (X1 ++ Y1) ∧ StbF (X1 ++ Y1) (X1 ++ Y1)) := ⟨by rw [L1.out]; simp only [List.append_assoc], List.length_append, half_same (by have := LN.out; omega) ORD.out.1.left ORD.out.2.1.left, StbF.refl _⟩
           have L3 : Aside (SyE A (X1 ++ X2) (Y1 ++ Y2) B d) := sym_end ORD.out.1 ORD.out.2.1 ORD.out.2.2.1 ORD.out.2.2.2 L2.out.2.2 ⟨half_same (by have := LN.out; omega) ORD.out.1.right ORD.out.2.1.right, StbF.refl _⟩ (by rw [L2.out.1]; simp only [List.append_assoc])
           go_wp2_with fail
           go_end0
           exact ⟨rfl, d, by omega, L3.out, S1.out⟩)
end Go.Proofs.YtalefbmoebobkaaGreatDoor
