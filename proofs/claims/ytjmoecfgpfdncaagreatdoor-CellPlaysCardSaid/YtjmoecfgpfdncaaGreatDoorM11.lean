/- Texts of one claim, merged: CeL3, TagR, TagR2, TagR3, TagR4, TagR5, HamR1, HamR2, HamR3, HamR4, HamR5, FrR3. -/
import Derived.Test.YtjmoecfgpfdncaaGreatDoorM10
import Derived.Test.YtjmoecfgpfdncaaGreatDoorM1
import Derived.BigQuiet
import Derived.Deep.QuietTactic
import Derived.Test.YtjmoecfgpfdncaaGreatDoorM2
import Derived.OwnWalk
import Derived.Deep.RegionHeld3
import Derived.Test.YtjmoecfgpfdncaaGreatDoorM3
import Derived.Laws.StructEq
import Derived.Deep.OwnRows

/- Layer 8, the laws: plays. -/
namespace Go.Proofs.YtjmoecfgpfdncaaGreatDoor
set_option maxRecDepth 100000
open Go.RowKit

set_option maxHeartbeats 4000000 in
theorem ce_plays (o : Nat) (F : Nat → Prop) (s : St) (g c h d : Nat) (oa : Option Addr) (cap : Nat) (l : List ActS) (w : World) (hw : WfSt s) (hc : CellAt w o F s) (hr : RAt w s g c h d) (hg : ¬ F g) (hh : ¬ F h)
    (hl : l.length ≤ maxLen) (ha : ActsArg w oa l) (haF : ∀ a, oa = some a → 0 < l.length → ¬ F a.block) (h1 : s.slc ≤ 1000) (h2 : s.tlc ≤ 1000) :
    Calls Tryz.prog 8 #[.pointer (some ⟨o, 0, none⟩), .agg (cv s g c h d), .slice oa l.length cap] w fun e w' => e = .returned (.bool true) ∧ Only F w w' := by
  have hlt := hr.lt hw
  have hb1 : Below w.heap.size w (w.alloc (.cells (cv s g c h d) 30)) := (Below.refl _ _).alloc (Nat.le_refl _) _
  have hpl : PL w F o 1000 s F g c h d (w.alloc (.cells (cv s g c h d) 30)) :=
    ⟨hw, hc.below hb1 hc.lt, hr.after hw hb1, Blk.new _ _ _, hg, hh, fun hf => by have := hc.lt _ hf; omega, by omega, by omega, fun k hk => Or.inl hk, Only.of_below hb1, by simp, h1, h2⟩
  have HPL := Lib.hid hpl
  obtain ⟨n, hn⟩ : ∃ n, l.length = n := ⟨_, rfl⟩
  have HN := Lib.hid hn
  have HA := Lib.hid ha
  have HAF := Lib.hid haF
  rw [hn] at hl ⊢
  have hn2 : (n : Int) ≤ 9223372036854775807 := by unfold maxLen at hl; omega
  clear hw hc hr hg hh ha haF h1 h2 hlt hb1 hpl hn hl
  go_enter Tryz.func8, Tryz.ntmps8
  go_wp2_with fail
  go_loopw [7] (fun iv wr => ∃ (i : Nat) (s' : St) (F' : Nat → Prop) (g' c' h' d' : Nat), i ≤ n ∧ i ≤ 40 ∧ iv = .int .i64 i ∧ PL w F o (1000 + i) s' F' g' c' h' d' wr) (fun iv _ => 40 - (intOf iv).toNat)
  case atStart => exact ⟨0, s, F, g, c, h, d, by omega, by omega, rfl, HPL.out⟩
  case round =>
    obtain ⟨i, s', F', g', c', h', d', hi, hi40, rfl, hp⟩ := hrel
    by_cases hlt : i < n ∧ i < 40
    · obtain ⟨hlt, hlt2⟩ := hlt
      obtain ⟨a, rfl, hab, hcell⟩ := HA.out i (by rw [HN.out]; exact hlt)
      obtain ⟨A, hA⟩ : ∃ A, l[i]'(by rw [HN.out]; exact hlt) = A := ⟨_, rfl⟩
      rw [hA] at hcell
      have hcl : ∀ t, t < 10 → wr.cell? ((a.add (i * 10)).add t) = (actv A)[t]? := by
        intro t ht
        rw [← hcell t ht]
        have hbl : ((a.add (i * 10)).add t).block = a.block := by rw [add_block, add_block]
        simp only [World.cell?, hbl]
        rw [hp.only.block a.block hab (HAF.out a rfl (by rw [HN.out]; omega))]
      obtain ⟨kd, ln, pt, p, q, r, fx, fk, fa, fb⟩ := A
      have k0 : wr.cell? (a.add (i * 10)) = some (.int .i64 kd) := hcl 0 (by omega)
      have k1 : wr.cell? ⟨(a.add (i * 10)).block, (a.add (i * 10)).off + 1, none⟩ = some (.int .i64 ln) := hcl 1 (by omega)
      have k2 : wr.cell? ⟨(a.add (i * 10)).block, (a.add (i * 10)).off + 2, none⟩ = some (.int .i64 pt) := hcl 2 (by omega)
      have k3 : wr.cell? ⟨(a.add (i * 10)).block, (a.add (i * 10)).off + 3, none⟩ = some (.string p) := hcl 3 (by omega)
      have k4 : wr.cell? ⟨(a.add (i * 10)).block, (a.add (i * 10)).off + 4, none⟩ = some (.string q) := hcl 4 (by omega)
      have k5 : wr.cell? ⟨(a.add (i * 10)).block, (a.add (i * 10)).off + 5, none⟩ = some (.string r) := hcl 5 (by omega)
      have k6 : wr.cell? ⟨(a.add (i * 10)).block, (a.add (i * 10)).off + 6, none⟩ = some (.int .i64 fx) := hcl 6 (by omega)
      have k7 : wr.cell? ⟨(a.add (i * 10)).block, (a.add (i * 10)).off + 7, none⟩ = some (.int .i64 fk) := hcl 7 (by omega)
      have k8 : wr.cell? ⟨(a.add (i * 10)).block, (a.add (i * 10)).off + 8, none⟩ = some (.int .i64 fa) := hcl 8 (by omega)
      have k9 : wr.cell? ⟨(a.add (i * 10)).block, (a.add (i * 10)).off + 9, none⟩ = some (.int .i64 fb) := hcl 9 (by omega)
      have HP := Lib.hid hp
      have HNF : Hid (¬ F' wr.heap.size) := fun hf => by have := hp.cell.lt _ hf; omega
      clear hcl hcell hp hA
      go_wp2_with fail
      refine (ce_short ⟨kd, ln, pt, p, q, r, fx, fk, fa, fb⟩ _).mono ?_
      rintro e w2 ⟨rfl, hb2⟩
      have hba : Below wr.heap.size wr (wr.alloc (.cells (actv ⟨kd, ln, pt, p, q, r, fx, fk, fa, fb⟩) 40)) := (Below.refl _ _).alloc (Nat.le_refl _) _
      have HP2 := Lib.hid (HP.out.after (hba.trans (hb2.mono hba.size)))
      have HN2 := Lib.hid ((Blk.new wr (actv ⟨kd, ln, pt, p, q, r, fx, fk, fa, fb⟩) 40).after hb2)
      clear hb2 hba HP k0 k1 k2 k3 k4 k5 k6 k7 k8 k9
      obtain ⟨sb, hsb⟩ : ∃ sb, shortB ⟨kd, ln, pt, p, q, r, fx, fk, fa, fb⟩ = sb := ⟨_, rfl⟩
      have HSZ : Hid (sb = true → p.size ≤ 400 ∧ q.size ≤ 400 ∧ r.size ≤ 400) := fun h => by rw [h] at hsb; exact of_decide_eq_true hsb
      rw [hsb]
      clear hsb
      cases sb with
      | false =>
        go_wp2_with fail
        go_ret
        exact ⟨rfl, HP2.out.only⟩
      | true =>
        obtain ⟨hsp, hsq, hsr⟩ := HSZ.out rfl
        clear HSZ
        have m0 : w2.cell? ⟨wr.heap.size, 0, none⟩ = some (.int .i64 kd) := HN2.out.cell 0
        have m1 : w2.cell? ⟨wr.heap.size, 1, none⟩ = some (.int .i64 ln) := HN2.out.cell 1
        have m2 : w2.cell? ⟨wr.heap.size, 2, none⟩ = some (.int .i64 pt) := HN2.out.cell 2
        have m3 : w2.cell? ⟨wr.heap.size, 3, none⟩ = some (.string p) := HN2.out.cell 3
        have m4 : w2.cell? ⟨wr.heap.size, 4, none⟩ = some (.string q) := HN2.out.cell 4
        have m5 : w2.cell? ⟨wr.heap.size, 5, none⟩ = some (.string r) := HN2.out.cell 5
        have m6 : w2.cell? ⟨wr.heap.size, 6, none⟩ = some (.int .i64 fx) := HN2.out.cell 6
        have m7 : w2.cell? ⟨wr.heap.size, 7, none⟩ = some (.int .i64 fk) := HN2.out.cell 7
        have m8 : w2.cell? ⟨wr.heap.size, 8, none⟩ = some (.int .i64 fa) := HN2.out.cell 8
        have m9 : w2.cell? ⟨wr.heap.size, 9, none⟩ = some (.int .i64 fb) := HN2.out.cell 9
        by_cases hk1 : kd = 1
        · subst hk1
          go_wp2_with fail
          refine ((ce_prog) o F' s' ln p fx fk fa fb _ HP2.out.wf HP2.out.cell hsp).mono ?_
          rintro e w3 ⟨rfl, ⟨F2, hc2, hg2⟩, ho2⟩
          have hn3 := HN2.out.only ho2 HNF.out
          have hbx := HP2.out.box.only ho2 HP2.out.nb
          have hrd := HP2.out.rd.only HP2.out.wf ho2 HP2.out.ng HP2.out.nh
          have x0 : w3.cell? ⟨wr.heap.size, 0, none⟩ = some (.int .i64 1) := hn3.cell 0
          have x1 : w3.cell? ⟨wr.heap.size, 1, none⟩ = some (.int .i64 ln) := hn3.cell 1
          have x2 : w3.cell? ⟨wr.heap.size, 2, none⟩ = some (.int .i64 pt) := hn3.cell 2
          have x3 : w3.cell? ⟨wr.heap.size, 3, none⟩ = some (.string p) := hn3.cell 3
          have x4 : w3.cell? ⟨wr.heap.size, 4, none⟩ = some (.string q) := hn3.cell 4
          have x5 : w3.cell? ⟨wr.heap.size, 5, none⟩ = some (.string r) := hn3.cell 5
          have x6 : w3.cell? ⟨wr.heap.size, 6, none⟩ = some (.int .i64 fx) := hn3.cell 6
          have x7 : w3.cell? ⟨wr.heap.size, 7, none⟩ = some (.int .i64 fk) := hn3.cell 7
          have x8 : w3.cell? ⟨wr.heap.size, 8, none⟩ = some (.int .i64 fa) := hn3.cell 8
          have x9 : w3.cell? ⟨wr.heap.size, 9, none⟩ = some (.int .i64 fb) := hn3.cell 9
          have HC2 := Lib.hid hc2
          have HG2 := Lib.hid hg2
          have HO2 := Lib.hid ho2
          have HBX := Lib.hid hbx
          have HRD := Lib.hid hrd
          obtain ⟨t, ht⟩ : ∃ t, progSt s' ln p fk fa fb = t := ⟨_, rfl⟩
          obtain ⟨ec, hec⟩ : ∃ ec, progC s' ln p fk = ec := ⟨_, rfl⟩
          have HT := Lib.hid ht
          have HEC := Lib.hid hec
          have htw : WfSt t := by rw [← ht]; exact progSt_wf HP2.out.wf ln p fk fa fb
          have htc : t.slc ≤ s'.slc + 1 ∧ t.tlc ≤ s'.tlc + 1 := by
            rw [← ht]
            rw [(progSt_counts s' ln p fk fa fb).1, (progSt_counts s' ln p fk fa fb).2]; omega
          have HTW := Lib.hid htw
          have HTC := Lib.hid htc
          rw [ht] at HC2
          rw [hec]
          clear hc2 hg2 ho2 hn3 hbx hrd ht hec htw htc m0 m1 m2 m3 m4 m5 m6 m7 m8 m9
          go_wp2_with (first
            | (refine wpList_load_row rfl 30 (.tmp 4) rfl w.heap.size rfl 30 (cv s' g' c' h' d') (0, 0) _ HBX.out Tryz.underlying30 rfl size_cell ?_))
          refine ((rce_prog) s' g' c' h' d' ln p fx fk fa fb _ HP2.out.wf HRD.out ).mono ?_
          rintro e w4 ⟨⟨g2, c2, h2, d2, rfl, hr2, hgh⟩, hb4⟩
          rw [HT.out] at hr2
          rw [HT.out, HEC.out]
          have hp5 := HP2.out.step HC2.out HG2.out HO2.out hb4 hr2 hgh HTW.out HTC.out.1 HTC.out.2
          have hbx4 := HBX.out.after hb4
          obtain ⟨w5, hw5⟩ : ∃ w5, w4.setRow w.heap.size (cv t g2 c2 h2 d2) = w5 := ⟨_, rfl⟩
          rw [hw5] at hp5
          have HP5 := Lib.hid hp5
          have HW5 := Lib.hid hw5
          have HBX4 := Lib.hid hbx4
          clear hr2 hgh hb4 hp5 hw5 hbx4 HC2 HG2 HO2 HRD HBX x0 x1 x2 x3 x4 x5 x6 x7 x8 x9
          go_wp2_with (refine wpList_store_row rfl 30 (.tmp 4) (.tmp 80) rfl w.heap.size (cv t g2 c2 h2 d2) rfl rfl 30 (cv s' g' c' h' d') HBX4.out size_cell rfl (cv_one _ _ _ _ _) ?_; rw [HW5.out])
          have HWF5 := Lib.hid HP5.out.wf
          have HC5 := Lib.hid HP5.out.cell
          refine (ce_counts o F2 t _ HWF5.out HC5.out).mono ?_
          rintro e w6 ⟨rfl, hb6⟩
          have HP6 := Lib.hid (HP5.out.after hb6)
          clear hb6 HC5 HP5
          have q2 : w6.cell? ⟨w.heap.size, 2, none⟩ = some (.int .i64 t.mode) := HP6.out.box.cell 2
          have q3 : w6.cell? ⟨w.heap.size, 3, none⟩ = some (.int .i64 t.done) := HP6.out.box.cell 3
          have q4 : w6.cell? ⟨w.heap.size, 4, none⟩ = some (.bool t.bad) := HP6.out.box.cell 4
          have q5 : w6.cell? ⟨w.heap.size, 5, none⟩ = some (.bool t.torn) := HP6.out.box.cell 5
          have q6 : w6.cell? ⟨w.heap.size, 6, none⟩ = some (.int .i64 t.slc) := HP6.out.box.cell 6
          have q7 : w6.cell? ⟨w.heap.size, 7, none⟩ = some (.int .i64 t.tlc) := HP6.out.box.cell 7
          have HCN : Hid (∀ n, CellAt (w6.drewN n) o F2 t) := fun n => HP6.out.cell.keep (fun _ _ => rfl)
          go_wp2_with fail
          go_quiet (first
            | (go_at_call 24; exact Calls.quiet_of_same ((ce_mode o F2 t _ HWF5.out (HCN.out _)).mono fun _ _ h => ⟨h.1, h.2.symm⟩))
            | (go_at_call 25; exact Calls.quiet_of_same ((ce_done o F2 t _ HWF5.out (HCN.out _)).mono fun _ _ h => ⟨h.1, h.2.symm⟩))
            | (go_at_call 28; exact Calls.quiet_of_same ((ce_bad o F2 t _ HWF5.out (HCN.out _)).mono fun _ _ h => ⟨h.1, h.2.symm⟩))
            | (go_at_call 29; exact Calls.quiet_of_same ((ce_torn o F2 t _ HWF5.out (HCN.out _)).mono fun _ _ h => ⟨h.1, h.2.symm⟩)))
          go_wp2_with fail
          go_roundw
          case rel => exact ⟨i + 1, t, F2, g2, c2, h2, d2, by omega, by omega, by go_num, HP6.out.after (drewN_below2 _ _ _)⟩
          case measure => simp [intOf]; omega
        have hb1 : ((kd : Int) == 1) = false := by simpa using hk1
        by_cases hk2 : kd = 2
        · subst hk2
          go_wp2_with fail
          refine ((ce_foggy) o F' s' ln p q r fx fk fa fb _ HP2.out.wf HP2.out.cell hsp hsq hsr).mono ?_
          rintro e w3 ⟨rfl, ⟨F2, hc2, hg2⟩, ho2⟩
          have hn3 := HN2.out.only ho2 HNF.out
          have hbx := HP2.out.box.only ho2 HP2.out.nb
          have hrd := HP2.out.rd.only HP2.out.wf ho2 HP2.out.ng HP2.out.nh
          have x0 : w3.cell? ⟨wr.heap.size, 0, none⟩ = some (.int .i64 2) := hn3.cell 0
          have x1 : w3.cell? ⟨wr.heap.size, 1, none⟩ = some (.int .i64 ln) := hn3.cell 1
          have x2 : w3.cell? ⟨wr.heap.size, 2, none⟩ = some (.int .i64 pt) := hn3.cell 2
          have x3 : w3.cell? ⟨wr.heap.size, 3, none⟩ = some (.string p) := hn3.cell 3
          have x4 : w3.cell? ⟨wr.heap.size, 4, none⟩ = some (.string q) := hn3.cell 4
          have x5 : w3.cell? ⟨wr.heap.size, 5, none⟩ = some (.string r) := hn3.cell 5
          have x6 : w3.cell? ⟨wr.heap.size, 6, none⟩ = some (.int .i64 fx) := hn3.cell 6
          have x7 : w3.cell? ⟨wr.heap.size, 7, none⟩ = some (.int .i64 fk) := hn3.cell 7
          have x8 : w3.cell? ⟨wr.heap.size, 8, none⟩ = some (.int .i64 fa) := hn3.cell 8
          have x9 : w3.cell? ⟨wr.heap.size, 9, none⟩ = some (.int .i64 fb) := hn3.cell 9
          have HC2 := Lib.hid hc2
          have HG2 := Lib.hid hg2
          have HO2 := Lib.hid ho2
          have HBX := Lib.hid hbx
          have HRD := Lib.hid hrd
          obtain ⟨t, ht⟩ : ∃ t, twoSt s' ln p q r false fk fa fb = t := ⟨_, rfl⟩
          obtain ⟨ec, hec⟩ : ∃ ec, twoC s' ln p q r false fk = ec := ⟨_, rfl⟩
          have HT := Lib.hid ht
          have HEC := Lib.hid hec
          have htw : WfSt t := by rw [← ht]; exact twoSt_wf HP2.out.wf ln p q r false fk fa fb
          have htc : t.slc ≤ s'.slc + 1 ∧ t.tlc ≤ s'.tlc + 1 := by
            rw [← ht]
            rw [(twoSt_counts s' ln p q r false fk fa fb).1, (twoSt_counts s' ln p q r false fk fa fb).2]; omega
          have HTW := Lib.hid htw
          have HTC := Lib.hid htc
          rw [ht] at HC2
          rw [hec]
          clear hc2 hg2 ho2 hn3 hbx hrd ht hec htw htc m0 m1 m2 m3 m4 m5 m6 m7 m8 m9
          go_wp2_with (first
            | (refine wpList_load_row rfl 30 (.tmp 4) rfl w.heap.size rfl 30 (cv s' g' c' h' d') (0, 0) _ HBX.out Tryz.underlying30 rfl size_cell ?_))
          refine ((rce_foggy) s' g' c' h' d' ln p q r fx fk fa fb _ HP2.out.wf HRD.out (by rw [HT.out]; exact HTW.out)).mono ?_
          rintro e w4 ⟨⟨g2, c2, h2, d2, rfl, hr2, hgh⟩, hb4⟩
          rw [HT.out] at hr2
          rw [HT.out, HEC.out]
          have hp5 := HP2.out.step HC2.out HG2.out HO2.out hb4 hr2 hgh HTW.out HTC.out.1 HTC.out.2
          have hbx4 := HBX.out.after hb4
          obtain ⟨w5, hw5⟩ : ∃ w5, w4.setRow w.heap.size (cv t g2 c2 h2 d2) = w5 := ⟨_, rfl⟩
          rw [hw5] at hp5
          have HP5 := Lib.hid hp5
          have HW5 := Lib.hid hw5
          have HBX4 := Lib.hid hbx4
          clear hr2 hgh hb4 hp5 hw5 hbx4 HC2 HG2 HO2 HRD HBX x0 x1 x2 x3 x4 x5 x6 x7 x8 x9
          go_wp2_with (refine wpList_store_row rfl 30 (.tmp 4) (.tmp 101) rfl w.heap.size (cv t g2 c2 h2 d2) rfl rfl 30 (cv s' g' c' h' d') HBX4.out size_cell rfl (cv_one _ _ _ _ _) ?_; rw [HW5.out])
          have HWF5 := Lib.hid HP5.out.wf
          have HC5 := Lib.hid HP5.out.cell
          refine (ce_counts o F2 t _ HWF5.out HC5.out).mono ?_
          rintro e w6 ⟨rfl, hb6⟩
          have HP6 := Lib.hid (HP5.out.after hb6)
          clear hb6 HC5 HP5
          have q2 : w6.cell? ⟨w.heap.size, 2, none⟩ = some (.int .i64 t.mode) := HP6.out.box.cell 2
          have q3 : w6.cell? ⟨w.heap.size, 3, none⟩ = some (.int .i64 t.done) := HP6.out.box.cell 3
          have q4 : w6.cell? ⟨w.heap.size, 4, none⟩ = some (.bool t.bad) := HP6.out.box.cell 4
          have q5 : w6.cell? ⟨w.heap.size, 5, none⟩ = some (.bool t.torn) := HP6.out.box.cell 5
          have q6 : w6.cell? ⟨w.heap.size, 6, none⟩ = some (.int .i64 t.slc) := HP6.out.box.cell 6
          have q7 : w6.cell? ⟨w.heap.size, 7, none⟩ = some (.int .i64 t.tlc) := HP6.out.box.cell 7
          have HCN : Hid (∀ n, CellAt (w6.drewN n) o F2 t) := fun n => HP6.out.cell.keep (fun _ _ => rfl)
          go_wp2_with fail
          go_quiet (first
            | (go_at_call 24; exact Calls.quiet_of_same ((ce_mode o F2 t _ HWF5.out (HCN.out _)).mono fun _ _ h => ⟨h.1, h.2.symm⟩))
            | (go_at_call 25; exact Calls.quiet_of_same ((ce_done o F2 t _ HWF5.out (HCN.out _)).mono fun _ _ h => ⟨h.1, h.2.symm⟩))
            | (go_at_call 28; exact Calls.quiet_of_same ((ce_bad o F2 t _ HWF5.out (HCN.out _)).mono fun _ _ h => ⟨h.1, h.2.symm⟩))
            | (go_at_call 29; exact Calls.quiet_of_same ((ce_torn o F2 t _ HWF5.out (HCN.out _)).mono fun _ _ h => ⟨h.1, h.2.symm⟩)))
          go_wp2_with fail
          go_roundw
          case rel => exact ⟨i + 1, t, F2, g2, c2, h2, d2, by omega, by omega, by go_num, HP6.out.after (drewN_below2 _ _ _)⟩
          case measure => simp [intOf]; omega
        have hb2 : ((kd : Int) == 2) = false := by simpa using hk2
        by_cases hk3 : kd = 3
        · subst hk3
          go_wp2_with fail
          refine ((ce_fine) o F' s' ln p q r fx fk fa fb _ HP2.out.wf HP2.out.cell hsp hsq hsr).mono ?_
          rintro e w3 ⟨rfl, ⟨F2, hc2, hg2⟩, ho2⟩
          have hn3 := HN2.out.only ho2 HNF.out
          have hbx := HP2.out.box.only ho2 HP2.out.nb
          have hrd := HP2.out.rd.only HP2.out.wf ho2 HP2.out.ng HP2.out.nh
          have x0 : w3.cell? ⟨wr.heap.size, 0, none⟩ = some (.int .i64 3) := hn3.cell 0
          have x1 : w3.cell? ⟨wr.heap.size, 1, none⟩ = some (.int .i64 ln) := hn3.cell 1
          have x2 : w3.cell? ⟨wr.heap.size, 2, none⟩ = some (.int .i64 pt) := hn3.cell 2
          have x3 : w3.cell? ⟨wr.heap.size, 3, none⟩ = some (.string p) := hn3.cell 3
          have x4 : w3.cell? ⟨wr.heap.size, 4, none⟩ = some (.string q) := hn3.cell 4
          have x5 : w3.cell? ⟨wr.heap.size, 5, none⟩ = some (.string r) := hn3.cell 5
          have x6 : w3.cell? ⟨wr.heap.size, 6, none⟩ = some (.int .i64 fx) := hn3.cell 6
          have x7 : w3.cell? ⟨wr.heap.size, 7, none⟩ = some (.int .i64 fk) := hn3.cell 7
          have x8 : w3.cell? ⟨wr.heap.size, 8, none⟩ = some (.int .i64 fa) := hn3.cell 8
          have x9 : w3.cell? ⟨wr.heap.size, 9, none⟩ = some (.int .i64 fb) := hn3.cell 9
          have HC2 := Lib.hid hc2
          have HG2 := Lib.hid hg2
          have HO2 := Lib.hid ho2
          have HBX := Lib.hid hbx
          have HRD := Lib.hid hrd
          obtain ⟨t, ht⟩ : ∃ t, twoSt s' ln p q r true fk fa fb = t := ⟨_, rfl⟩
          obtain ⟨ec, hec⟩ : ∃ ec, twoC s' ln p q r true fk = ec := ⟨_, rfl⟩
          have HT := Lib.hid ht
          have HEC := Lib.hid hec
          have htw : WfSt t := by rw [← ht]; exact twoSt_wf HP2.out.wf ln p q r true fk fa fb
          have htc : t.slc ≤ s'.slc + 1 ∧ t.tlc ≤ s'.tlc + 1 := by
            rw [← ht]
            rw [(twoSt_counts s' ln p q r true fk fa fb).1, (twoSt_counts s' ln p q r true fk fa fb).2]; omega
          have HTW := Lib.hid htw
          have HTC := Lib.hid htc
          rw [ht] at HC2
          rw [hec]
          clear hc2 hg2 ho2 hn3 hbx hrd ht hec htw htc m0 m1 m2 m3 m4 m5 m6 m7 m8 m9
          go_wp2_with (first
            | (refine wpList_load_row rfl 30 (.tmp 4) rfl w.heap.size rfl 30 (cv s' g' c' h' d') (0, 0) _ HBX.out Tryz.underlying30 rfl size_cell ?_))
          refine ((rce_fine) s' g' c' h' d' ln p q r fx fk fa fb _ HP2.out.wf HRD.out (by rw [HT.out]; exact HTW.out)).mono ?_
          rintro e w4 ⟨⟨g2, c2, h2, d2, rfl, hr2, hgh⟩, hb4⟩
          rw [HT.out] at hr2
          rw [HT.out, HEC.out]
          have hp5 := HP2.out.step HC2.out HG2.out HO2.out hb4 hr2 hgh HTW.out HTC.out.1 HTC.out.2
          have hbx4 := HBX.out.after hb4
          obtain ⟨w5, hw5⟩ : ∃ w5, w4.setRow w.heap.size (cv t g2 c2 h2 d2) = w5 := ⟨_, rfl⟩
          rw [hw5] at hp5
          have HP5 := Lib.hid hp5
          have HW5 := Lib.hid hw5
          have HBX4 := Lib.hid hbx4
          clear hr2 hgh hb4 hp5 hw5 hbx4 HC2 HG2 HO2 HRD HBX x0 x1 x2 x3 x4 x5 x6 x7 x8 x9
          go_wp2_with (refine wpList_store_row rfl 30 (.tmp 4) (.tmp 122) rfl w.heap.size (cv t g2 c2 h2 d2) rfl rfl 30 (cv s' g' c' h' d') HBX4.out size_cell rfl (cv_one _ _ _ _ _) ?_; rw [HW5.out])
          have HWF5 := Lib.hid HP5.out.wf
          have HC5 := Lib.hid HP5.out.cell
          refine (ce_counts o F2 t _ HWF5.out HC5.out).mono ?_
          rintro e w6 ⟨rfl, hb6⟩
          have HP6 := Lib.hid (HP5.out.after hb6)
          clear hb6 HC5 HP5
          have q2 : w6.cell? ⟨w.heap.size, 2, none⟩ = some (.int .i64 t.mode) := HP6.out.box.cell 2
          have q3 : w6.cell? ⟨w.heap.size, 3, none⟩ = some (.int .i64 t.done) := HP6.out.box.cell 3
          have q4 : w6.cell? ⟨w.heap.size, 4, none⟩ = some (.bool t.bad) := HP6.out.box.cell 4
          have q5 : w6.cell? ⟨w.heap.size, 5, none⟩ = some (.bool t.torn) := HP6.out.box.cell 5
          have q6 : w6.cell? ⟨w.heap.size, 6, none⟩ = some (.int .i64 t.slc) := HP6.out.box.cell 6
          have q7 : w6.cell? ⟨w.heap.size, 7, none⟩ = some (.int .i64 t.tlc) := HP6.out.box.cell 7
          have HCN : Hid (∀ n, CellAt (w6.drewN n) o F2 t) := fun n => HP6.out.cell.keep (fun _ _ => rfl)
          go_wp2_with fail
          go_quiet (first
            | (go_at_call 24; exact Calls.quiet_of_same ((ce_mode o F2 t _ HWF5.out (HCN.out _)).mono fun _ _ h => ⟨h.1, h.2.symm⟩))
            | (go_at_call 25; exact Calls.quiet_of_same ((ce_done o F2 t _ HWF5.out (HCN.out _)).mono fun _ _ h => ⟨h.1, h.2.symm⟩))
            | (go_at_call 28; exact Calls.quiet_of_same ((ce_bad o F2 t _ HWF5.out (HCN.out _)).mono fun _ _ h => ⟨h.1, h.2.symm⟩))
            | (go_at_call 29; exact Calls.quiet_of_same ((ce_torn o F2 t _ HWF5.out (HCN.out _)).mono fun _ _ h => ⟨h.1, h.2.symm⟩)))
          go_wp2_with fail
          go_roundw
          case rel => exact ⟨i + 1, t, F2, g2, c2, h2, d2, by omega, by omega, by go_num, HP6.out.after (drewN_below2 _ _ _)⟩
          case measure => simp [intOf]; omega
        have hb3 : ((kd : Int) == 3) = false := by simpa using hk3
        by_cases hk4 : kd = 4
        · subst hk4
          go_wp2_with fail
          refine ((ce_erase) o F' s' fx fk fa fb _ HP2.out.wf HP2.out.cell (by have := HP2.out.s1; omega) (by have := HP2.out.s2; omega)).mono ?_
          rintro e w3 ⟨rfl, ⟨F2, hc2, hg2⟩, ho2⟩
          have hn3 := HN2.out.only ho2 HNF.out
          have hbx := HP2.out.box.only ho2 HP2.out.nb
          have hrd := HP2.out.rd.only HP2.out.wf ho2 HP2.out.ng HP2.out.nh
          have x0 : w3.cell? ⟨wr.heap.size, 0, none⟩ = some (.int .i64 4) := hn3.cell 0
          have x1 : w3.cell? ⟨wr.heap.size, 1, none⟩ = some (.int .i64 ln) := hn3.cell 1
          have x2 : w3.cell? ⟨wr.heap.size, 2, none⟩ = some (.int .i64 pt) := hn3.cell 2
          have x3 : w3.cell? ⟨wr.heap.size, 3, none⟩ = some (.string p) := hn3.cell 3
          have x4 : w3.cell? ⟨wr.heap.size, 4, none⟩ = some (.string q) := hn3.cell 4
          have x5 : w3.cell? ⟨wr.heap.size, 5, none⟩ = some (.string r) := hn3.cell 5
          have x6 : w3.cell? ⟨wr.heap.size, 6, none⟩ = some (.int .i64 fx) := hn3.cell 6
          have x7 : w3.cell? ⟨wr.heap.size, 7, none⟩ = some (.int .i64 fk) := hn3.cell 7
          have x8 : w3.cell? ⟨wr.heap.size, 8, none⟩ = some (.int .i64 fa) := hn3.cell 8
          have x9 : w3.cell? ⟨wr.heap.size, 9, none⟩ = some (.int .i64 fb) := hn3.cell 9
          have HC2 := Lib.hid hc2
          have HG2 := Lib.hid hg2
          have HO2 := Lib.hid ho2
          have HBX := Lib.hid hbx
          have HRD := Lib.hid hrd
          obtain ⟨t, ht⟩ : ∃ t, eraseSt s' fk fa fb = t := ⟨_, rfl⟩
          obtain ⟨ec, hec⟩ : ∃ ec, eraseC s' fk = ec := ⟨_, rfl⟩
          have HT := Lib.hid ht
          have HEC := Lib.hid hec
          have htw : WfSt t := by rw [← ht]; exact eraseSt_wf HP2.out.wf fk fa fb (by have := HP2.out.s1; omega) (by have := HP2.out.s2; omega)
          have htc : t.slc ≤ s'.slc + 1 ∧ t.tlc ≤ s'.tlc + 1 := by
            rw [← ht]
            exact eraseSt_counts s' fk fa fb
          have HTW := Lib.hid htw
          have HTC := Lib.hid htc
          rw [ht] at HC2
          rw [hec]
          clear hc2 hg2 ho2 hn3 hbx hrd ht hec htw htc m0 m1 m2 m3 m4 m5 m6 m7 m8 m9
          go_wp2_with (first
            | (refine wpList_load_row rfl 30 (.tmp 4) rfl w.heap.size rfl 30 (cv s' g' c' h' d') (0, 0) _ HBX.out Tryz.underlying30 rfl size_cell ?_))
          refine ((rce_erase) s' g' c' h' d' fx fk fa fb _ HP2.out.wf HRD.out (by have := HP2.out.s1; omega) (by have := HP2.out.s2; omega)).mono ?_
          rintro e w4 ⟨⟨g2, c2, h2, d2, rfl, hr2, hgh⟩, hb4⟩
          rw [HT.out] at hr2
          rw [HT.out, HEC.out]
          have hp5 := HP2.out.step HC2.out HG2.out HO2.out hb4 hr2 hgh HTW.out HTC.out.1 HTC.out.2
          have hbx4 := HBX.out.after hb4
          obtain ⟨w5, hw5⟩ : ∃ w5, w4.setRow w.heap.size (cv t g2 c2 h2 d2) = w5 := ⟨_, rfl⟩
          rw [hw5] at hp5
          have HP5 := Lib.hid hp5
          have HW5 := Lib.hid hw5
          have HBX4 := Lib.hid hbx4
          clear hr2 hgh hb4 hp5 hw5 hbx4 HC2 HG2 HO2 HRD HBX x0 x1 x2 x3 x4 x5 x6 x7 x8 x9
          go_wp2_with (refine wpList_store_row rfl 30 (.tmp 4) (.tmp 135) rfl w.heap.size (cv t g2 c2 h2 d2) rfl rfl 30 (cv s' g' c' h' d') HBX4.out size_cell rfl (cv_one _ _ _ _ _) ?_; rw [HW5.out])
          have HWF5 := Lib.hid HP5.out.wf
          have HC5 := Lib.hid HP5.out.cell
          refine (ce_counts o F2 t _ HWF5.out HC5.out).mono ?_
          rintro e w6 ⟨rfl, hb6⟩
          have HP6 := Lib.hid (HP5.out.after hb6)
          clear hb6 HC5 HP5
          have q2 : w6.cell? ⟨w.heap.size, 2, none⟩ = some (.int .i64 t.mode) := HP6.out.box.cell 2
          have q3 : w6.cell? ⟨w.heap.size, 3, none⟩ = some (.int .i64 t.done) := HP6.out.box.cell 3
          have q4 : w6.cell? ⟨w.heap.size, 4, none⟩ = some (.bool t.bad) := HP6.out.box.cell 4
          have q5 : w6.cell? ⟨w.heap.size, 5, none⟩ = some (.bool t.torn) := HP6.out.box.cell 5
          have q6 : w6.cell? ⟨w.heap.size, 6, none⟩ = some (.int .i64 t.slc) := HP6.out.box.cell 6
          have q7 : w6.cell? ⟨w.heap.size, 7, none⟩ = some (.int .i64 t.tlc) := HP6.out.box.cell 7
          have HCN : Hid (∀ n, CellAt (w6.drewN n) o F2 t) := fun n => HP6.out.cell.keep (fun _ _ => rfl)
          go_wp2_with fail
          go_quiet (first
            | (go_at_call 24; exact Calls.quiet_of_same ((ce_mode o F2 t _ HWF5.out (HCN.out _)).mono fun _ _ h => ⟨h.1, h.2.symm⟩))
            | (go_at_call 25; exact Calls.quiet_of_same ((ce_done o F2 t _ HWF5.out (HCN.out _)).mono fun _ _ h => ⟨h.1, h.2.symm⟩))
            | (go_at_call 28; exact Calls.quiet_of_same ((ce_bad o F2 t _ HWF5.out (HCN.out _)).mono fun _ _ h => ⟨h.1, h.2.symm⟩))
            | (go_at_call 29; exact Calls.quiet_of_same ((ce_torn o F2 t _ HWF5.out (HCN.out _)).mono fun _ _ h => ⟨h.1, h.2.symm⟩)))
          go_wp2_with fail
          go_roundw
          case rel => exact ⟨i + 1, t, F2, g2, c2, h2, d2, by omega, by omega, by go_num, HP6.out.after (drewN_below2 _ _ _)⟩
          case measure => simp [intOf]; omega
        have hb4 : ((kd : Int) == 4) = false := by simpa using hk4
        go_wp2_with fail
        refine (ce_read o F' s' ln pt _ HP2.out.wf HP2.out.cell).mono ?_
        rintro e w3 ⟨rfl, hb3⟩
        have HP3 := Lib.hid (HP2.out.after hb3)
        have hn3 := HN2.out.after hb3
        have x0 : w3.cell? ⟨wr.heap.size, 0, none⟩ = some (.int .i64 kd) := hn3.cell 0
        have x1 : w3.cell? ⟨wr.heap.size, 1, none⟩ = some (.int .i64 ln) := hn3.cell 1
        have x2 : w3.cell? ⟨wr.heap.size, 2, none⟩ = some (.int .i64 pt) := hn3.cell 2
        have x3 : w3.cell? ⟨wr.heap.size, 3, none⟩ = some (.string p) := hn3.cell 3
        have x4 : w3.cell? ⟨wr.heap.size, 4, none⟩ = some (.string q) := hn3.cell 4
        have x5 : w3.cell? ⟨wr.heap.size, 5, none⟩ = some (.string r) := hn3.cell 5
        have x6 : w3.cell? ⟨wr.heap.size, 6, none⟩ = some (.int .i64 fx) := hn3.cell 6
        have x7 : w3.cell? ⟨wr.heap.size, 7, none⟩ = some (.int .i64 fk) := hn3.cell 7
        have x8 : w3.cell? ⟨wr.heap.size, 8, none⟩ = some (.int .i64 fa) := hn3.cell 8
        have x9 : w3.cell? ⟨wr.heap.size, 9, none⟩ = some (.int .i64 fb) := hn3.cell 9
        obtain ⟨t, ht⟩ : ∃ t, readT s' ln pt = t := ⟨_, rfl⟩
        obtain ⟨ec, hec⟩ : ∃ ec, readC s' ln pt = ec := ⟨_, rfl⟩
        have HT := Lib.hid ht
        have HEC := Lib.hid hec
        rw [ht, hec]
        clear hb3 hn3 ht hec m0 m1 m2 m3 m4 m5 m6 m7 m8 m9
        go_wp2_with (first
          | (refine wpList_load_row rfl 30 (.tmp 4) rfl w.heap.size rfl 30 (cv s' g' c' h' d') (0, 0) _ HP3.out.box Tryz.underlying30 rfl size_cell ?_))
        refine (rce_read s' g' c' h' d' ln pt _ HP3.out.wf HP3.out.rd).mono ?_
        rintro e w5 ⟨rfl, hb5⟩
        have HP5 := Lib.hid (HP3.out.after hb5).next
        rw [HT.out, HEC.out]
        clear hb5 HP3 x0 x1 x2 x3 x4 x5 x6 x7 x8 x9
        go_wp2_with fail
        have HWF5 := Lib.hid HP5.out.wf
        have HC5 := Lib.hid HP5.out.cell
        refine (ce_counts o F' s' _ HWF5.out HC5.out).mono ?_
        rintro e w6 ⟨rfl, hb6⟩
        have HP6 := Lib.hid (HP5.out.after hb6)
        clear hb6 HC5 HP5
        have q2 : w6.cell? ⟨w.heap.size, 2, none⟩ = some (.int .i64 s'.mode) := HP6.out.box.cell 2
        have q3 : w6.cell? ⟨w.heap.size, 3, none⟩ = some (.int .i64 s'.done) := HP6.out.box.cell 3
        have q4 : w6.cell? ⟨w.heap.size, 4, none⟩ = some (.bool s'.bad) := HP6.out.box.cell 4
        have q5 : w6.cell? ⟨w.heap.size, 5, none⟩ = some (.bool s'.torn) := HP6.out.box.cell 5
        have q6 : w6.cell? ⟨w.heap.size, 6, none⟩ = some (.int .i64 s'.slc) := HP6.out.box.cell 6
        have q7 : w6.cell? ⟨w.heap.size, 7, none⟩ = some (.int .i64 s'.tlc) := HP6.out.box.cell 7
        have HCN : Hid (∀ n, CellAt (w6.drewN n) o F' s') := fun n => HP6.out.cell.keep (fun _ _ => rfl)
        go_wp2_with fail
        go_quiet (first
          | (go_at_call 24; exact Calls.quiet_of_same ((ce_mode o F' s' _ HWF5.out (HCN.out _)).mono fun _ _ h => ⟨h.1, h.2.symm⟩))
          | (go_at_call 25; exact Calls.quiet_of_same ((ce_done o F' s' _ HWF5.out (HCN.out _)).mono fun _ _ h => ⟨h.1, h.2.symm⟩))
          | (go_at_call 28; exact Calls.quiet_of_same ((ce_bad o F' s' _ HWF5.out (HCN.out _)).mono fun _ _ h => ⟨h.1, h.2.symm⟩))
          | (go_at_call 29; exact Calls.quiet_of_same ((ce_torn o F' s' _ HWF5.out (HCN.out _)).mono fun _ _ h => ⟨h.1, h.2.symm⟩)))
        go_wp2_with fail
        go_roundw
        case rel => exact ⟨i + 1, s', F', g', c', h', d', by omega, by omega, by go_num, HP6.out.after (drewN_below2 _ _ _)⟩
        case measure => simp [intOf]; omega
    · have HP := Lib.hid hp
      have hcc : ¬ ((i : Int) < (n : Int)) ∨ ((i : Int) < (n : Int) ∧ ¬ ((i : Int) < 40)) := by omega
      clear hp hlt
      rcases hcc with hcc | ⟨hcc, hcc2⟩
      all_goals
        go_wp2_with (first
          | (refine wpList_load_row rfl 30 (.tmp 4) rfl w.heap.size rfl 30 (cv s' g' c' h' d') (0, 0) _ HP.out.box Tryz.underlying30 rfl size_cell ?_))
        refine (ce_alike o F' s' g' c' h' d' _ HP.out.wf HP.out.cell HP.out.rd).mono ?_
        rintro e w2 ⟨rfl, hb2⟩
        have HO := Lib.hid (HP.out.after hb2).only
        clear hb2 HP
        go_wp2_with fail
        go_ret
        exact ⟨rfl, HO.out⟩

end Go.Proofs.YtjmoecfgpfdncaaGreatDoor

/- The reference of layer 4, walked: May, Number, Encode, Of, Decode. -/
namespace Go.Proofs.YtjmoecfgpfdncaaGreatDoor
open Go.RowKit

/-- a tag's value -/
def tv (k l q e : Int) : Value := .agg #[.int .i64 k, .int .i64 l, .int .i64 q, .int .i64 e]
theorem below_eq {w w' : World} (h : w = w') : Below w.heap.size w w' := by subst h; exact Below.refl _ _

def NumPost (v : Int) (n : Nat) (w : World) (r : Ending) (w' : World) : Prop := r = .returned (.string (leS v n)) ∧ Below w.heap.size w w'
theorem cat_bytes (a b : List UInt8) : (⟨a.toArray⟩ : ByteArray) ++ (⟨b.toArray⟩ : ByteArray) = ⟨(a ++ b).toArray⟩ := by
  rw [ByteArray.mk_append_mk]
theorem tag_cat (k l q e : Int) : (((strOfNums [27, k] ++ leS l 2) ++ leS q 6) ++ leS e 4) ++ strOfNums [0, 0] = tagS k l q e := by
  unfold leS strOfNums
  simp only [cat_bytes]
  rfl
theorem conv2 (c d : Int) (ty : TypeId) (W : World) :
    Sem.run Tryz.prog (convert 87 9 (.slice (some ⟨W.heap.size, 0, none⟩) 2 2)) (W.alloc (.cells #[.int .u8 c, .int .u8 d] ty))
      = .ok (.string (strOfNums [c, d])) (W.alloc (.cells #[.int .u8 c, .int .u8 d] ty)) := by
  refine run_convert_bytes_arg (P := Tryz.prog) _ 87 5 Tryz.underlying87 Tryz.underlying5 W.heap.size 0 2 2 [c, d] rfl ?_ 9 Tryz.underlying9
  intro i hi
  rw [Nat.zero_add, World.cell?_alloc_new]
  rcases i with _ | _ | i
  · rfl
  · rfl
  · omega

/-- the tag's copy lies in this block, and nothing below has turned -/
def KT (k l q e : Int) (w w' : World) : Prop := w'.cell? ⟨w.heap.size, 0, none⟩ = some (.int .i64 k) ∧ w'.cell? ⟨w.heap.size, 1, none⟩ = some (.int .i64 l) ∧ w'.cell? ⟨w.heap.size, 2, none⟩ = some (.int .i64 q) ∧ w'.cell? ⟨w.heap.size, 3, none⟩ = some (.int .i64 e) ∧ Below w.heap.size w w'
theorem KT.first (k l q e : Int) (w : World) (ty : TypeId) : KT k l q e w (w.alloc (.cells #[.int .i64 k, .int .i64 l, .int .i64 q, .int .i64 e] ty)) :=
  ⟨by rw [World.cell?_alloc_new]; rfl, by rw [World.cell?_alloc_new]; rfl, by rw [World.cell?_alloc_new]; rfl, by rw [World.cell?_alloc_new]; rfl, (Below.refl _ _).alloc (Nat.le_refl _) _⟩
theorem KT.drew {k l q e : Int} {w w' : World} (h : KT k l q e w w') : KT k l q e w w'.drew := ⟨h.1, h.2.1, h.2.2.1, h.2.2.2.1, h.2.2.2.2.drew⟩
theorem KT.call {k l q e : Int} {w w1 w2 : World} (h : KT k l q e w w1) (hb : Below w1.heap.size w1 w2) : KT k l q e w w2 :=
  ⟨(hb.cell (cell_lt h.1)).trans h.1, (hb.cell (cell_lt h.2.1)).trans h.2.1, (hb.cell (cell_lt h.2.2.1)).trans h.2.2.1, (hb.cell (cell_lt h.2.2.2.1)).trans h.2.2.2.1, h.2.2.2.2.trans (hb.mono h.2.2.2.2.size)⟩
theorem KT.alloc {k l q e : Int} {w w1 : World} (h : KT k l q e w w1) (o : Obj) : KT k l q e w (w1.alloc o) := h.call ((Below.refl _ _).alloc (Nat.le_refl _) _)

end Go.Proofs.YtjmoecfgpfdncaaGreatDoor

/- The reference of layer 4, walked: Encode of a tag that may be. -/
namespace Go.Proofs.YtjmoecfgpfdncaaGreatDoor
open Go.RowKit

theorem conv_cells (g : Nat) (c d : Int) (W : World) (h0 : W.cell? ⟨g, 0, none⟩ = some (.int .u8 c)) (h1 : W.cell? ⟨g, 1, none⟩ = some (.int .u8 d)) :
    Sem.run Tryz.prog (convert 87 9 (.slice (some ⟨g, 0, none⟩) 2 2)) W = .ok (.string (strOfNums [c, d])) W := by
  refine run_convert_bytes_arg (P := Tryz.prog) _ 87 5 Tryz.underlying87 Tryz.underlying5 g 0 2 2 [c, d] rfl ?_ 9 Tryz.underlying9
  intro i hi
  rw [Nat.zero_add]
  rcases i with _ | _ | i
  · exact h0
  · exact h1
  · omega
/-- what each operation of Encode's return leaves -/
def RE (k l q e : Int) (B : Nat) : Nat → Value → World → Prop
  | 0, v, _ => v = .pointer (some ⟨B, 0, none⟩)
  | 1, v, _ => v = .int .i64 k
  | 2, v, _ => v = .int .u8 k
  | 3, v, w => ∃ g, v = .slice (some ⟨g, 0, none⟩) 2 2 ∧ w.cell? ⟨g, 0, none⟩ = some (.int .u8 27) ∧ w.cell? ⟨g, 1, none⟩ = some (.int .u8 k)
  | 4, v, _ => v = .string (strOfNums [27, k])
  | 5, v, _ => v = .pointer (some ⟨B, 1, none⟩)
  | 6, v, _ => v = .int .i64 l
  | 7, v, _ => v = .string (leS l 2)
  | 8, v, _ => v = .string (strOfNums [27, k] ++ leS l 2)
  | 9, v, _ => v = .pointer (some ⟨B, 2, none⟩)
  | 10, v, _ => v = .int .i64 q
  | 11, v, _ => v = .string (leS q 6)
  | 12, v, _ => v = .string ((strOfNums [27, k] ++ leS l 2) ++ leS q 6)
  | 13, v, _ => v = .pointer (some ⟨B, 3, none⟩)
  | 14, v, _ => v = .int .i64 e
  | 15, v, _ => v = .string (leS e 4)
  | 16, v, _ => v = .string (((strOfNums [27, k] ++ leS l 2) ++ leS q 6) ++ leS e 4)
  | 17, v, w => ∃ g, v = .slice (some ⟨g, 0, none⟩) 2 2 ∧ w.cell? ⟨g, 0, none⟩ = some (.int .u8 0) ∧ w.cell? ⟨g, 1, none⟩ = some (.int .u8 0)
  | 18, v, _ => v = .string (strOfNums [0, 0])
  | 19, v, _ => v = .string (tagS k l q e)
  | 20, v, _ => v = .string (tagS k l q e)
  | _, v, _ => v = .int .i64 0
def TB (w w' : World) : Prop := Below w.heap.size w w'
theorem RE.mono {k l q e : Int} {B : Nat} : ∀ (i : Nat) (v : Value) (w w' : World), RE k l q e B i v w → TB w w' → RE k l q e B i v w' := by
  intro i v w w' h hb
  have c3 : ∀ c d : Int, (∃ g, v = .slice (some ⟨g, 0, none⟩) 2 2 ∧ w.cell? ⟨g, 0, none⟩ = some (.int .u8 c) ∧ w.cell? ⟨g, 1, none⟩ = some (.int .u8 d)) → ∃ g, v = .slice (some ⟨g, 0, none⟩) 2 2 ∧ w'.cell? ⟨g, 0, none⟩ = some (.int .u8 c) ∧ w'.cell? ⟨g, 1, none⟩ = some (.int .u8 d) := by
    rintro c d ⟨g, h1, h2, h3⟩
    exact ⟨g, h1, (Below.cell (p := ⟨g, 0, none⟩) hb (cell_lt h2)).trans h2, (Below.cell (p := ⟨g, 1, none⟩) hb (cell_lt h3)).trans h3⟩
  unfold RE at *
  split at h <;> first | exact c3 _ _ h | exact h
/-- the frame, as far as the return reads it -/
def BaseE (B : Nat) (a : Act) : Prop := a.tmps.size = 27 ∧ a.defers = [] ∧ a.tmps.getD 1 undef = .pointer (some ⟨B, 0, none⟩)
theorem BaseE.put {B : Nat} {a : Act} {d : Tmp} {v : Value} (h : BaseE B a) (hd : d ≠ 1) : BaseE B (a.put (some d) v) :=
  ⟨by simp [Act.put, h.1], h.2.1, by rw [← h.2.2]; simp [Act.put, Array.getD_eq_getD_getElem?, Array.getElem?_setIfInBounds_ne hd]⟩

end Go.Proofs.YtjmoecfgpfdncaaGreatDoor

/- The reference of layer 4, walked: Decode of a text that is no tag's bytes by its form. -/
namespace Go.Proofs.YtjmoecfgpfdncaaGreatDoor
open Go.RowKit

def tagV (k l q e : Int) : Value := .agg #[.int .i64 k, .int .i64 l, .int .i64 q, .int .i64 e]
theorem byteT_get (s : ByteArray) (i : Nat) (h : i < s.size) : ((s[i].toNat : Nat) : Int) = byteT s i := by
  unfold byteT
  have : s.data.toList.getD i 0 = s[i] := by simp [List.getD, h]; rfl
  rw [this]

end Go.Proofs.YtjmoecfgpfdncaaGreatDoor

/- The reference of layer 4, walked: Decode of a text that has a tag's form. -/
namespace Go.Proofs.YtjmoecfgpfdncaaGreatDoor
open Go.RowKit

def ta (k l q e : Int) : Array Value := #[.int .i64 k, .int .i64 l, .int .i64 q, .int .i64 e]
theorem ta_one (k l q e : Int) : (ta k l q e).all (·.oneCell') = true := by
  rw [Array.all_eq_true_iff_forall_mem]
  intro v hv
  simp [ta] at hv
  rcases hv with rfl | rfl | rfl | rfl <;> rfl
theorem size_tag : (Tryz.prog.info? 86).map (·.size) = some 4 := by kernel_rfl
/-- what each operation of Decode's tag leaves -/
def vsT (s s2 s6 s4 : ByteArray) (b1 : Nat) (x y z : Int) : List (Option (Tmp × Value)) :=
  [some (24, .string s), some (25, .int .u8 b1), some (26, .int .i64 b1), some (27, .string s), some (28, .string s2), some (29, .int .i64 x), some (30, .string s), some (31, .string s6), some (32, .int .i64 y), some (33, .string s), some (34, .string s4), some (35, .int .i64 z), some (36, .agg (ta b1 x y z)), none, none]
def SpT (B : Nat) (f : Array Value) (j : Nat) (a : Act) (w : World) : Prop := ∃ g cs, B < g ∧ a.tmps.getD 4 undef = .pointer (some ⟨g, 0, none⟩) ∧ Blk w g cs 86 ∧ cs.size = 4 ∧ (j = 14 → cs = f)
/-- a block of a tag stays one, and stays f, once it is f -/
def TT (B : Nat) (f : Array Value) (w w' : World) : Prop := Below (B + 1) w w' ∧ ∀ g cs, B < g → Blk w g cs 86 → cs.size = 4 → ∃ cs', Blk w' g cs' 86 ∧ cs'.size = 4 ∧ (cs = f → cs' = f)
theorem TT.of {B : Nat} {f : Array Value} {w w' : World} (hb : Below w.heap.size w w') (hB : B < w.heap.size) : TT B f w w' :=
  ⟨hb.mono hB, fun _ cs _ h hs => ⟨cs, h.after hb, hs, id⟩⟩
theorem TT.store {B g : Nat} {f cs : Array Value} {w : World} (hg : B < g) (h : Blk w g cs 86) (hf : f.size = 4) : TT B f w (w.setRow g f) :=
  ⟨below_put hg f (Below.refl _ _), fun g' cs' _ h' hs' => by
    by_cases e : g = g'
    · subst e; exact ⟨f, h.put f, hf, fun _ => rfl⟩
    · exact ⟨cs', h'.put_other e f, hs', id⟩⟩
theorem SpT.ext {B : Nat} {f : Array Value} : ∀ j a a' w w', SpT B f j a w → (∀ d ∈ [4], a'.tmps.getD d undef = a.tmps.getD d undef) → TT B f w w' → SpT B f j a' w' := by
  rintro j a a' w w' ⟨g, cs, hg, h1, h2, h3, h4⟩ hd hT
  obtain ⟨cs', h5, h6, h7⟩ := hT.2 g cs hg h2 h3
  exact ⟨g, cs', hg, (hd 4 (by simp)).trans h1, h5, h6, fun h => h7 (h4 h)⟩
/-- the frame while the region TR runs -/
def BaseTR (s : ByteArray) (B : Nat) (a : Act) : Prop := ∃ u1 u3 u4 u5 u6 u7 u8 u9 u10 u11 u12 u13 u14 u15 u16 u17 u18 u19 u20 u21 u22 u23 u24 u25 u26 u27 u28 u29 u30 u31 u32 u33 u34 u35 u36 u37 u38 u39 u40 u41 : Value, a = ⟨#[.string s, u1, .pointer (some ⟨B, 0, none⟩), u3, u4, u5, u6, u7, u8, u9, u10, u11, u12, u13, u14, u15, u16, u17, u18, u19, u20, u21, u22, u23, u24, u25, u26, u27, u28, u29, u30, u31, u32, u33, u34, u35, u36, u37, u38, u39, u40, u41], []⟩
theorem baseTR (s : ByteArray) (B : Nat) : ∀ (a : Act) (v : Value), BaseTR s B a → BaseTR s B (a.put (some 24) v) ∧ BaseTR s B (a.put (some 25) v) ∧ BaseTR s B (a.put (some 26) v) ∧ BaseTR s B (a.put (some 27) v) ∧ BaseTR s B (a.put (some 28) v) ∧ BaseTR s B (a.put (some 29) v) ∧ BaseTR s B (a.put (some 30) v) ∧ BaseTR s B (a.put (some 31) v) ∧ BaseTR s B (a.put (some 32) v) ∧ BaseTR s B (a.put (some 33) v) ∧ BaseTR s B (a.put (some 34) v) ∧ BaseTR s B (a.put (some 35) v) ∧ BaseTR s B (a.put (some 36) v) ∧ BaseTR s B (a.put (some 4) v) := by
  rintro a v ⟨u1, u3, u4, u5, u6, u7, u8, u9, u10, u11, u12, u13, u14, u15, u16, u17, u18, u19, u20, u21, u22, u23, u24, u25, u26, u27, u28, u29, u30, u31, u32, u33, u34, u35, u36, u37, u38, u39, u40, u41, rfl⟩
  exact ⟨⟨u1, u3, u4, u5, u6, u7, u8, u9, u10, u11, u12, u13, u14, u15, u16, u17, u18, u19, u20, u21, u22, u23, v, u25, u26, u27, u28, u29, u30, u31, u32, u33, u34, u35, u36, u37, u38, u39, u40, u41, rfl⟩,
    ⟨u1, u3, u4, u5, u6, u7, u8, u9, u10, u11, u12, u13, u14, u15, u16, u17, u18, u19, u20, u21, u22, u23, u24, v, u26, u27, u28, u29, u30, u31, u32, u33, u34, u35, u36, u37, u38, u39, u40, u41, rfl⟩,
    ⟨u1, u3, u4, u5, u6, u7, u8, u9, u10, u11, u12, u13, u14, u15, u16, u17, u18, u19, u20, u21, u22, u23, u24, u25, v, u27, u28, u29, u30, u31, u32, u33, u34, u35, u36, u37, u38, u39, u40, u41, rfl⟩,
    ⟨u1, u3, u4, u5, u6, u7, u8, u9, u10, u11, u12, u13, u14, u15, u16, u17, u18, u19, u20, u21, u22, u23, u24, u25, u26, v, u28, u29, u30, u31, u32, u33, u34, u35, u36, u37, u38, u39, u40, u41, rfl⟩,
    ⟨u1, u3, u4, u5, u6, u7, u8, u9, u10, u11, u12, u13, u14, u15, u16, u17, u18, u19, u20, u21, u22, u23, u24, u25, u26, u27, v, u29, u30, u31, u32, u33, u34, u35, u36, u37, u38, u39, u40, u41, rfl⟩,
    ⟨u1, u3, u4, u5, u6, u7, u8, u9, u10, u11, u12, u13, u14, u15, u16, u17, u18, u19, u20, u21, u22, u23, u24, u25, u26, u27, u28, v, u30, u31, u32, u33, u34, u35, u36, u37, u38, u39, u40, u41, rfl⟩,
    ⟨u1, u3, u4, u5, u6, u7, u8, u9, u10, u11, u12, u13, u14, u15, u16, u17, u18, u19, u20, u21, u22, u23, u24, u25, u26, u27, u28, u29, v, u31, u32, u33, u34, u35, u36, u37, u38, u39, u40, u41, rfl⟩,
    ⟨u1, u3, u4, u5, u6, u7, u8, u9, u10, u11, u12, u13, u14, u15, u16, u17, u18, u19, u20, u21, u22, u23, u24, u25, u26, u27, u28, u29, u30, v, u32, u33, u34, u35, u36, u37, u38, u39, u40, u41, rfl⟩,
    ⟨u1, u3, u4, u5, u6, u7, u8, u9, u10, u11, u12, u13, u14, u15, u16, u17, u18, u19, u20, u21, u22, u23, u24, u25, u26, u27, u28, u29, u30, u31, v, u33, u34, u35, u36, u37, u38, u39, u40, u41, rfl⟩,
    ⟨u1, u3, u4, u5, u6, u7, u8, u9, u10, u11, u12, u13, u14, u15, u16, u17, u18, u19, u20, u21, u22, u23, u24, u25, u26, u27, u28, u29, u30, u31, u32, v, u34, u35, u36, u37, u38, u39, u40, u41, rfl⟩,
    ⟨u1, u3, u4, u5, u6, u7, u8, u9, u10, u11, u12, u13, u14, u15, u16, u17, u18, u19, u20, u21, u22, u23, u24, u25, u26, u27, u28, u29, u30, u31, u32, u33, v, u35, u36, u37, u38, u39, u40, u41, rfl⟩,
    ⟨u1, u3, u4, u5, u6, u7, u8, u9, u10, u11, u12, u13, u14, u15, u16, u17, u18, u19, u20, u21, u22, u23, u24, u25, u26, u27, u28, u29, u30, u31, u32, u33, u34, v, u36, u37, u38, u39, u40, u41, rfl⟩,
    ⟨u1, u3, u4, u5, u6, u7, u8, u9, u10, u11, u12, u13, u14, u15, u16, u17, u18, u19, u20, u21, u22, u23, u24, u25, u26, u27, u28, u29, u30, u31, u32, u33, u34, u35, v, u37, u38, u39, u40, u41, rfl⟩,
    ⟨u1, u3, v, u5, u6, u7, u8, u9, u10, u11, u12, u13, u14, u15, u16, u17, u18, u19, u20, u21, u22, u23, u24, u25, u26, u27, u28, u29, u30, u31, u32, u33, u34, u35, u36, u37, u38, u39, u40, u41, rfl⟩⟩
/-- the world while the region runs: the result's block, and what is below -/
def CT (w0 w : World) : Prop := Blk w w0.heap.size (ta 0 0 0 0) 86 ∧ Below w0.heap.size w0 w

end Go.Proofs.YtjmoecfgpfdncaaGreatDoor

/- Tags: what Encode, Decode and May answer, as plain functions of their arguments; the reference's, whole; two tags compared. -/
namespace Go.Proofs.YtjmoecfgpfdncaaGreatDoor
open Go.RowKit

def encT (k l q e : Int) : ByteArray := if MayT k l q e then tagS k l q e else ByteArray.empty
def encE (k l q e : Int) : Int := if MayT k l q e then 0 else 1
def decA (s : ByteArray) : Array Value := if OkT s then ta (byteT s 1) (lT s) (qT s) (eT s) else ta 0 0 0 0
def decE (s : ByteArray) : Int := if OkT s then 0 else 3
theorem decA_ok {s : ByteArray} (h : OkT s) : decA s = ta (byteT s 1) (lT s) (qT s) (eT s) := if_pos h
theorem decA_no {s : ByteArray} (h : ¬ OkT s) : decA s = ta 0 0 0 0 := if_neg h
def EncT (k l q e : Int) (w : World) (r : Ending) (w' : World) : Prop := r = .returned (.tuple #[.string (encT k l q e), .int .i64 (encE k l q e)]) ∧ Below w.heap.size w w'
def DecT (s : ByteArray) (w : World) (r : Ending) (w' : World) : Prop := r = .returned (.tuple #[.agg (decA s), .int .i64 (decE s)]) ∧ Below w.heap.size w w'
def MayPost (k l q e : Int) (w : World) (r : Ending) (w' : World) : Prop := r = .returned (.bool (mayB k l q e)) ∧ Below w.heap.size w w'

/-- are two tags the same? -/
def sameT (k l q e k' l' q' e' : Int) : Bool := k == k' && l == l' && q == q' && e == e'
theorem sameT_self (k l q e : Int) : sameT k l q e k l q e = true := by simp [sameT]
theorem sameT_iff (k l q e k' l' q' e' : Int) : sameT k l q e k' l' q' e' = true ↔ k = k' ∧ l = l' ∧ q = q' ∧ e = e' := by simp [sameT, and_assoc]
theorem fields_tag (k l q e k' l' q' e' : Int) (w : World) : Sem.run Tryz.prog (Op.eqFields 9999 (ta k l q e) (ta k' l' q' e') (Tryz.prog.fieldsOf 86).toList) w = .ok (sameT k l q e k' l' q' e') w := by
  simp only [Program.fieldsOf, Tryz.underlying86]
  simp [Op.eqFields, ta, part, isAgg, run_underlying Tryz.underlying3, run_equalIn_int _ _ _ _ _ _ _ Tryz.underlying3, sameT]
  by_cases h1 : k = k' <;> by_cases h2 : l = l' <;> by_cases h3 : q = q' <;> by_cases h4 : e = e' <;> simp [h1, h2, h3, h4]
theorem eq_tag (k l q e k' l' q' e' : Int) (w : World) : Sem.run Tryz.prog (binOp .eql 86 (.agg (ta k l q e)) (.agg (ta k' l' q' e'))) w = .ok (.bool (sameT k l q e k' l' q' e')) w := by
  rw [run_eql_struct, run_equalIn_agg _ _ _ _ _ (by kernel_rfl) (by kernel_rfl), fields_tag]
  rfl
theorem ne_tag (k l q e k' l' q' e' : Int) (w : World) : Sem.run Tryz.prog (binOp .neq 86 (.agg (ta k l q e)) (.agg (ta k' l' q' e'))) w = .ok (.bool (!sameT k l q e k' l' q' e')) w := by
  rw [run_neq_struct, run_equalIn_agg _ _ _ _ _ (by kernel_rfl) (by kernel_rfl), fields_tag]
  rfl
theorem wp_eql_tag {o : Oper} {a : Act} {w : World} {K : Act → World → Prop} {Q : Exit → Act → World → Prop} (x y : Operand) (ho : o.op = .binOp .eql 86 x y 86)
    (k l q e k' l' q' e' : Int) (hx : a.eval x = .agg (ta k l q e)) (hy : a.eval y = .agg (ta k' l' q' e')) (h : K (a.put o.dst (.bool (sameT k l q e k' l' q' e'))) w) : o.wp Tryz.prog a w K Q := by
  unfold Oper.wp execOp
  simp only [ho, hx, hy, Sem.run_bind, run_eqGuard_agg (P := Tryz.prog) w .eql 86 x y _ _ (by kernel_rfl), Result.andThen_ok, eq_tag]
  exact h
theorem wpList_eql_tag {ops : Array Oper} {rest : List Oper} {o : Oper} {a : Act} {w : World} {Q : Exit → Act → World → Prop} (hgd : o.guard = none) (x y : Operand) (ho : o.op = .binOp .eql 86 x y 86)
    (k l q e k' l' q' e' : Int) (hx : a.eval x = .agg (ta k l q e)) (hy : a.eval y = .agg (ta k' l' q' e')) (h : wpList Tryz.prog ops Q rest (a.put o.dst (.bool (sameT k l q e k' l' q' e'))) w) : wpList Tryz.prog ops Q (o :: rest) a w :=
  wpList_plain hgd fun _ hK => wp_eql_tag x y ho k l q e k' l' q' e' hx hy (hK _ _ h)
theorem decA_ta (s : ByteArray) : ∃ k l q e, decA s = ta k l q e := by
  unfold decA; split <;> exact ⟨_, _, _, _, rfl⟩

end Go.Proofs.YtjmoecfgpfdncaaGreatDoor

/- The reference of layer 3, walked: power, Places, Xor, Bits, Left. -/
namespace Go.Proofs.YtjmoecfgpfdncaaGreatDoor
set_option maxRecDepth 100000
open Go.RowKit

/-- numbers as cells -/
def V (x : Nat) : Value := .int .i64 (x : Nat)
/-- the first cells of a block are these numbers -/
def IntsAt (w : World) (g : Nat) (xs : List Nat) : Prop := ∀ i, i < xs.length → w.cell? ⟨g, i, none⟩ = some (.int .i64 ((xs.getD i 0 : Nat) : Int))
theorem IntsAt.below {w w' : World} {B g : Nat} {xs : List Nat} (h : IntsAt w g xs) (hb : Below B w w') (hg : g < B) : IntsAt w' g xs := by
  intro i hi
  rw [hb.cell (p := ⟨g, i, none⟩) hg]; exact h i hi
/-- this value is a slice of these numbers -/
def Ints (w : World) (v : Value) (xs : List Nat) : Prop := ∃ a ca, v = .slice a xs.length ca ∧ ∀ i, i < xs.length → ∃ b, a = some ⟨b, 0, none⟩ ∧ b < w.heap.size ∧ IntsAt w b xs
theorem Ints.below {w w' : World} {v : Value} {xs : List Nat} (h : Ints w v xs) (hb : Below w.heap.size w w') : Ints w' v xs := by
  obtain ⟨a, ca, h1, h2⟩ := h
  refine ⟨a, ca, h1, fun i hi => ?_⟩
  obtain ⟨b, h3, h4, h5⟩ := h2 i hi
  exact ⟨b, h3, Nat.lt_of_lt_of_le h4 hb.size, h5.below hb h4⟩
theorem owned_cells {w : World} {B E : Nat} {v : Value} {n : Nat} {xs : List Nat} (h : w.ownsRow B E 1 v n (xs.map V)) (hn : n = xs.length) :
    (v = .slice none 0 0 ∧ xs = []) ∨ ∃ g cap, v = .slice (some ⟨g, 0, none⟩) n cap ∧ B ≤ g ∧ g < w.heap.size ∧ IntsAt w g xs := by
  subst hn
  obtain ⟨_, h⟩ := h
  rcases h with ⟨h1, h2⟩ | ⟨g, cap, cur, h1, h2, h3, h4, _, h5, h6⟩
  · exact Or.inl ⟨h1, List.eq_nil_of_length_eq_zero h2⟩
  · refine Or.inr ⟨g, cap, h1, h2, ?_, ?_⟩
    · rcases Nat.lt_or_ge g w.heap.size with h | h
      · exact h
      · rw [Array.getElem?_eq_none h] at h3; cases h3
    · intro i hi
      have h7 : cur.toList[i]? = some (V (xs.getD i 0)) := by
        have h8 : (cur.toList.take (xs.length * 1))[i]? = cur.toList[i]? := List.getElem?_take_of_lt (by omega)
        rw [← h8, h6]
        simp [List.getD, hi]
      simpa [World.cell?, h3, V] using h7
theorem owned_ints {w : World} {B E : Nat} {v : Value} {n : Nat} {xs : List Nat} (h : w.ownsRow B E 1 v n (xs.map V)) (hn : n = xs.length) : Ints w v xs := by
  rcases owned_cells h hn with ⟨rfl, rfl⟩ | ⟨g, cap, rfl, _, hg, hi⟩
  · exact ⟨none, 0, rfl, fun i hi => by simp at hi⟩
  · subst hn
    exact ⟨_, cap, rfl, fun i _ => ⟨g, rfl, hg, hi⟩⟩
theorem Tryz.infoInt : (Tryz.prog.info? 3).map (fun i => (i.zero, i.size, i.bytes)) = some (some (.int .i64 0), 1, 8) := by kernel_rfl
/-! power -/
def isPow (n : Nat) : Bool := n == 1 || n == 2 || n == 4 || n == 8 || n == 16 || n == 32 || n == 64 || n == 128
theorem pow_end {n k : Nat} (hn : n < 72) (hk : k ≤ 7) (h : ∀ j, j < k → 2 ^ j < n) (h2 : ¬ 2 ^ k < n) : decide (2 ^ k = n) = isPow n := by
  have h3 : ∀ n, n < 72 → ∀ k, k < 8 → (∀ j, j < k → 2 ^ j < n) → ¬ 2 ^ k < n → decide (2 ^ k = n) = isPow n := by decide +kernel
  exact h3 n hn k (by omega) h h2
/-! Places -/
def plTo (n : Nat) : List Nat := (List.range n).filter fun i => decide (3 ≤ i) && !isPow i
theorem plTo_succ (n : Nat) (h : 3 ≤ n) : plTo (n + 1) = plTo n ++ (if isPow n then [] else [n]) := by
  unfold plTo
  rw [List.range_succ, List.filter_append]
  congr 1
  cases hb : isPow n <;> simp [hb, h]
theorem plTo_length (n : Nat) : (plTo n).length ≤ n := by
  unfold plTo
  exact Nat.le_trans (List.length_filter_le _ _) (by simp)
theorem plTo_all : plTo 72 ++ [1, 2, 4, 8, 16, 32, 64, 0] = pl := by decide +kernel
theorem rel_pl {w wr w1 : World} {B n m : Nat} {v' : Value} {x : Int} (hn : 3 ≤ n) (hp : isPow n = false) (hm : m = (plTo n).length) (ho : w1.ownsRow B 3 1 v' (m + 1) ((plTo n).map V ++ [.int .i64 x])) (hv : x = (n : Nat)) (hb : Below B w wr) (hg : Below B wr w1) :
    w1.ownsRow B 3 1 v' (plTo (n + 1)).length ((plTo (n + 1)).map V) ∧ Below B w w1 := by
  subst hv; subst hm
  rw [plTo_succ n hn, hp]
  exact ⟨by simpa [V] using ho, hb.trans hg⟩
theorem rel_all {w wr w1 : World} {B m : Nat} {v' : Value} (hm : m = (plTo 72).length) (ho : w1.ownsRow B 3 1 v' (m + 8) ((plTo 72).map V ++ [.int .i64 1, .int .i64 2, .int .i64 4, .int .i64 8, .int .i64 16, .int .i64 32, .int .i64 64, .int .i64 0])) (hb : Below B w wr) (hg : Below B wr w1) :
    w1.ownsRow B 3 1 v' 72 (pl.map V) ∧ Below B w w1 := by
  subst hm
  refine ⟨?_, hb.trans hg⟩
  rw [← plTo_all, List.map_append]
  exact ho
theorem cell_eight_new (w : World) (t : TypeId) (a b c d e f g h : Value) : ∀ j u, [a, b, c, d, e, f, g, h][j]? = some u → (w.alloc (.cells #[a, b, c, d, e, f, g, h] t)).cell? ((⟨w.heap.size, 0, none⟩ : Addr).add j) = some u := by
  intro j u hu
  rcases j with _ | _ | _ | _ | _ | _ | _ | _ | j
  all_goals simp at hu
  all_goals subst hu
  all_goals simp [Addr.add, World.cell?_alloc_new]
def PlacesPost (B : Nat) (w : World) (e : Ending) (w' : World) : Prop := ∃ v, e = .returned v ∧ w'.ownsRow B 3 1 v 72 (pl.map V) ∧ Below B w w'

end Go.Proofs.YtjmoecfgpfdncaaGreatDoor

/- The reference of layer 3, walked: Xor, Bits, Left. -/
namespace Go.Proofs.YtjmoecfgpfdncaaGreatDoor
set_option maxRecDepth 100000
open Go.RowKit

theorem xor_div (a b k : Nat) : (a ^^^ b) / 2 ^ k = a / 2 ^ k ^^^ b / 2 ^ k := by
  apply Nat.eq_of_testBit_eq; intro i
  rw [Nat.testBit_xor, Nat.testBit_div_two_pow, Nat.testBit_div_two_pow, Nat.testBit_div_two_pow, Nat.testBit_xor]
theorem xor_step (a b k : Nat) : (a ^^^ b) % 2 ^ (k + 1) = (a ^^^ b) % 2 ^ k + 2 ^ k * ((a / 2 ^ k % 2 + b / 2 ^ k % 2) % 2) := by
  rw [Nat.mod_pow_succ, xor_div, xor_odd]

/-! Left -/
def left3 (xs : List Nat) (k : Nat) : Nat := leftL (xs.take k)
theorem left3_succ (xs : List Nat) (k : Nat) (h : k < xs.length) : left3 xs (k + 1) = left3 xs k ^^^ place (xs.getD k 0) := by
  unfold left3
  rw [List.take_succ_eq_append_getElem h, leftL_snoc]
  simp [List.getD, h]
theorem left3_all (xs : List Nat) : left3 xs xs.length = leftL xs := by unfold left3; rw [List.take_length]
theorem place_cell {w : World} {g : Nat} (h : IntsAt w g pl) (i : Nat) (hi : i < 72) : w.cell? ⟨g, i, none⟩ = some (.int .i64 ((place i : Nat) : Int)) := h i hi

end Go.Proofs.YtjmoecfgpfdncaaGreatDoor

/- The reference of layer 3, walked: Bits, Encode, Decode. -/
namespace Go.Proofs.YtjmoecfgpfdncaaGreatDoor
set_option maxRecDepth 100000
open Go.RowKit

theorem bt_bit (c r : Nat) (hc : c < 256) (hr : r < 8) : bt (c : Int) r = if c.testBit r then 1 else 0 := by
  have h : ∀ c, c < 256 → ∀ r, r < 8 → bt ((c : Nat) : Int) r = if c.testBit r then 1 else 0 := by decide +kernel
  exact h c hc r hr
def Ones3 (M n B : Nat) (w : World) (e : Ending) (w' : World) : Prop := ∃ v, e = .returned v ∧ w'.ownsRow B 3 1 v (cnt M n) ((onesL M n).map V) ∧ Below B w w'
theorem rel_ones {w wr w1 : World} {B M k m : Nat} {v' : Value} {x : Int} (hp : M.testBit k = true) (hm : m = cnt M k) (ho : w1.ownsRow B 3 1 v' (m + 1) ((onesL M k).map V ++ [.int .i64 x])) (hv : x = (k : Nat)) (hb : Below B w wr) (hg : Below B wr w1) :
    w1.ownsRow B 3 1 v' (cnt M (k + 1)) ((onesL M (k + 1)).map V) ∧ Below B w w1 := by
  subst hv; subst hm
  simp only [cnt, onesL, hp, if_true]
  exact ⟨by simpa [V] using ho, hb.trans hg⟩

end Go.Proofs.YtjmoecfgpfdncaaGreatDoor

/- The reference of layer 3, walked: Encode, Decode. -/
namespace Go.Proofs.YtjmoecfgpfdncaaGreatDoor
set_option maxRecDepth 100000
open Go.RowKit

theorem conv1 (c : Int) (ty : TypeId) (W : World) :
    Sem.run Tryz.prog (convert 87 9 (.slice (some ⟨W.heap.size, 0, none⟩) 1 1)) (W.alloc (.cells #[.int .u8 c] ty))
      = .ok (.string (strOfNums [c])) (W.alloc (.cells #[.int .u8 c] ty)) := by
  refine run_convert_bytes_arg (P := Tryz.prog) _ 87 5 Tryz.underlying87 Tryz.underlying5 W.heap.size 0 1 1 [c] rfl ?_ 9 Tryz.underlying9
  intro i hi
  rw [Nat.zero_add, World.cell?_alloc_new]
  rcases i with _ | i
  all_goals first | (simp at hi; done) | rfl
theorem size_one (c : Int) : (strOfNums [c]).size = 1 := rfl
/-- with no check yet -/
theorem nul_cat (s : ByteArray) (h : s.size = 8) : ∃ z, s ++ strOfNums [0] = z ∧ z.size = 9 ∧ numN (bs z) = numN (bs s) := by
  refine ⟨_, rfl, by rw [ByteArray.size_append, h, size_one], ?_⟩
  have e : bs (s ++ strOfNums [0]) = bs s ++ [0] := by
    unfold bs; rw [ByteArray.data_append, Array.toList_append]; rfl
  rw [e, numN_append]
  show _ + _ * ((0 : UInt8).toNat + 256 * 0) = _
  simp

def EncPost (s : ByteArray) (w : World) (e : Ending) (w' : World) : Prop := e = .returned (.tuple #[.string (encS s), .int .i64 0]) ∧ Below w.heap.size w w'

theorem rel_len {w wr w1 : World} {B n : Nat} {v' : Value} {x : Int} {xs : List Nat} (y : Nat) (ho : w1.ownsRow B 3 1 v' (n + 1) (xs.map V ++ [.int .i64 x])) (hv : x = (y : Nat)) (hb : Below B w wr) (hg : Below B wr w1) :
    w1.ownsRow B 3 1 v' (n + 1) ((xs ++ [y]).map V) ∧ Below B w w1 := by
  subst hv
  exact ⟨by simpa [V] using ho, hb.trans hg⟩
theorem own_len {w : World} {B n : Nat} {v : Value} {xs : List Nat} (h : w.ownsRow B 3 1 v n (xs.map V)) : xs.length = n ∧ ∃ a ca, v = .slice a n ca := by
  have hl : xs.length = n := by have := h.1; simpa using this
  obtain ⟨a, ca, h1, _⟩ := owned_ints h hl.symm
  exact ⟨hl, a, ca, by rw [← hl]; exact h1⟩

end Go.Proofs.YtjmoecfgpfdncaaGreatDoor

/- The reference of layer 3, walked: Decode. -/
namespace Go.Proofs.YtjmoecfgpfdncaaGreatDoor
set_option maxRecDepth 100000
open Go.RowKit

theorem rflip_at (s : ByteArray) (k : Nat) (w : World) (hm : s.size ≤ 1000) (hk : k < 8 * s.size) :
    Calls Tryz.prog 74 #[.string s, .int .i64 k] w fun e w' => e = .returned (.tuple #[.string (flipS s (k / 8) (k % 8)), .int .i64 0]) ∧ Below w.heap.size w w' := by
  have h := rflip_yes s (k / 8) (k % 8) w hm (by omega) (by omega)
  rwa [show 8 * ((k / 8 : Nat) : Int) + ((k % 8 : Nat) : Int) = (k : Int) by omega] at h
def DecPost (s : ByteArray) (w : World) (e : Ending) (w' : World) : Prop := e = .returned (.tuple #[.string (decS s).1, .int .i64 (((decS s).2 : Nat) : Int), .int .i64 0]) ∧ Below w.heap.size w w'
theorem ret_dec {a b : ByteArray} {x y : Int} {v : Value} (h1 : a = b) (h2 : x = y) : Ending.returned (.tuple #[.string a, .int .i64 x, v]) = .returned (.tuple #[.string b, .int .i64 y, v]) := by rw [h1, h2]
theorem dec_good {s : ByteArray} (h1 : cnt (numN (bs s)) 72 % 2 = 0) (h2 : left (numN (bs s)) 72 = 0) : decS s = (s.extract 0 8, 2) := by unfold decS; rw [if_pos h1, if_pos h2]
theorem dec_bad {s : ByteArray} (h1 : cnt (numN (bs s)) 72 % 2 = 0) (h2 : left (numN (bs s)) 72 ≠ 0) : decS s = (ByteArray.empty, 4) := by unfold decS; rw [if_pos h1, if_neg h2]
theorem dec_far {s : ByteArray} (h1 : ¬ cnt (numN (bs s)) 72 % 2 = 0) (h2 : 71 < left (numN (bs s)) 72) : decS s = (ByteArray.empty, 4) := by unfold decS; rw [if_neg h1, if_pos h2]
theorem dec_fix {s : ByteArray} (h1 : ¬ cnt (numN (bs s)) 72 % 2 = 0) (h2 : ¬ 71 < left (numN (bs s)) 72) : decS s = (fixS s (left (numN (bs s)) 72), 3) := by unfold decS; rw [if_neg h1, if_neg h2]
theorem fix_at {s : ByteArray} {k p : Nat} (hk : k < 64) (h : place k = p) : fixS s p = (flipS s (k / 8) (k % 8)).extract 0 8 := by
  subst h
  unfold fixS
  rw [idx_place (by omega), if_pos hk]
theorem fix_none {s : ByteArray} {p : Nat} (hp : p ≤ 71) (h : ∀ j, j < 64 → place j ≠ p) : fixS s p = s.extract 0 8 := by
  unfold fixS
  rw [if_neg]
  intro h2
  exact h _ h2 (place_idx hp).2

/-- the places lie in this block -/
def PlAt (w : World) (g : Nat) : Prop := ∀ i, i < 72 → w.cell? ⟨g, i, none⟩ = some (.int .i64 ((place i : Nat) : Int))
theorem PlAt.of {w : World} {g : Nat} (h : IntsAt w g pl) : PlAt w g := fun i hi => place_cell h i hi
theorem PlAt.at {w : World} {g i : Nat} (h : PlAt w g) (hi : i < 72) : w.cell? ⟨g, i, none⟩ = some (.int .i64 ((place i : Nat) : Int)) := h i hi
/-- no place below k is p -/
def NoTo (p k : Nat) : Prop := ∀ j, j < k → place j ≠ p
theorem NoTo.zero (p : Nat) : NoTo p 0 := fun j hj => by omega
theorem NoTo.succ {p k x : Nat} (h : NoTo p k) (hx : place k = x) (hb : ((x : Int) == (p : Int)) = false) : NoTo p (k + 1) := by
  have hxp : x ≠ p := by simp at hb; omega
  intro j hj
  rcases Nat.lt_or_ge j k with h2 | h2
  · exact h j h2
  · obtain rfl : j = k := by omega
    rw [hx]; exact hxp

end Go.Proofs.YtjmoecfgpfdncaaGreatDoor

/- The reference of layer 5, walked: Encode. -/
namespace Go.Proofs.YtjmoecfgpfdncaaGreatDoor
set_option maxRecDepth 100000
open Go.RowKit

theorem rfr_may_nat (n : Nat) (w : World) : Calls Tryz.prog 21 #[.int .i64 n] w fun r w' => r = .returned (.bool (decide (LenOk n))) ∧ w = w' := by
  have h := rfr_may (n : Int) w
  rwa [show decide (0 ≤ (n : Int) ∧ LenOk (n : Int).toNat) = decide (LenOk n) by simp] at h
/-- a slice of four noughts lies at g -/
def Four (w : World) (g : Nat) : Prop := ∀ i, i < 4 → w.cell? ⟨g, i, none⟩ = some (.int .u8 0)
theorem cells4 (w : World) (t : TypeId) : Four (w.alloc (.cells #[.int .u8 0, .int .u8 0, .int .u8 0, .int .u8 0] t)) w.heap.size := by
  intro i hi
  rw [World.cell?_alloc_new]
  rcases i with _ | _ | _ | _ | i
  all_goals first | omega | rfl
theorem Four.after {w w' : World} {g : Nat} (h : Four w g) (hb : Below w.heap.size w w') : Four w' g := fun i hi => (Below.cell (p := ⟨g, i, none⟩) hb (cell_lt (h i hi))).trans (h i hi)
theorem conv_four (g : Nat) (w : World) (h : Four w g) : Sem.run Tryz.prog (convert 87 9 (.slice (some ⟨g, 0, none⟩) 4 4)) w = .ok (.string four0) w := by
  refine run_convert_bytes_arg (P := Tryz.prog) _ 87 5 Tryz.underlying87 Tryz.underlying5 g 0 4 4 [0, 0, 0, 0] rfl ?_ 9 Tryz.underlying9
  intro i hi
  rw [Nat.zero_add, h i hi]
  rcases i with _ | _ | _ | _ | i
  all_goals first | omega | rfl
def SpF (d : Tmp) (_ : Nat) (a : Act) (w : World) : Prop := ∃ g, a.tmps.getD d undef = .slice (some ⟨g, 0, none⟩) 4 4 ∧ Four w g
theorem SpF.ext {d : Tmp} : ∀ j a a' w w', SpF d j a w → (∀ s ∈ [d], a'.tmps.getD s undef = a.tmps.getD s undef) → Goes w w' → SpF d j a' w' := by
  rintro j a a' w w' ⟨g, h1, h2⟩ hd hT
  exact ⟨g, (hd d (by simp)).trans h1, h2.after hT⟩
/-- nothing below has turned -/
def Kept (w0 w : World) : Prop := Below w0.heap.size w0 w
theorem Kept.call {w0 w w' : World} (h : Kept w0 w) (hb : Below w.heap.size w w') : Kept w0 w' := Below.trans h (hb.mono (Below.size h))
theorem Kept.drew {w0 w : World} (h : Kept w0 w) : Kept w0 w.drew := Below.drew h

/-- what each operation of the region FE leaves -/
def vsFE (hd data x y z : ByteArray) : List (Option (Tmp × Value)) :=
  [some (25, .string hd), some (26, .string data), some (27, .string x), some (28, .string y), none, some (30, .string four0), some (31, .string z), some (8, .string z)]
/-- the frame while the region FE runs -/
def BaseFE (hd data : ByteArray) (a : Act) : Prop := ∃ u : Nat → Value, a = ⟨#[u 0, .string data, u 2, u 3, u 4, u 5, .string hd, u 7, u 8, u 9, u 10, u 11, u 12, u 13, u 14, u 15, u 16, u 17, u 18, u 19, u 20, u 21, u 22, u 23, u 24, u 25, u 26, u 27, u 28, u 29, u 30, u 31, u 32, u 33, u 34, u 35, u 36, u 37, u 38, u 39, u 40, u 41, u 42, u 43, u 44, u 45, u 46, u 47, u 48, u 49, u 50, u 51], []⟩
theorem BaseFE.of {hd data : ByteArray} (arr : Array Value) (h : arr = #[arr.getD 0 undef, .string data, arr.getD 2 undef, arr.getD 3 undef, arr.getD 4 undef, arr.getD 5 undef, .string hd, arr.getD 7 undef, arr.getD 8 undef, arr.getD 9 undef, arr.getD 10 undef, arr.getD 11 undef, arr.getD 12 undef, arr.getD 13 undef, arr.getD 14 undef, arr.getD 15 undef, arr.getD 16 undef, arr.getD 17 undef, arr.getD 18 undef, arr.getD 19 undef, arr.getD 20 undef, arr.getD 21 undef, arr.getD 22 undef, arr.getD 23 undef, arr.getD 24 undef, arr.getD 25 undef, arr.getD 26 undef, arr.getD 27 undef, arr.getD 28 undef, arr.getD 29 undef, arr.getD 30 undef, arr.getD 31 undef, arr.getD 32 undef, arr.getD 33 undef, arr.getD 34 undef, arr.getD 35 undef, arr.getD 36 undef, arr.getD 37 undef, arr.getD 38 undef, arr.getD 39 undef, arr.getD 40 undef, arr.getD 41 undef, arr.getD 42 undef, arr.getD 43 undef, arr.getD 44 undef, arr.getD 45 undef, arr.getD 46 undef, arr.getD 47 undef, arr.getD 48 undef, arr.getD 49 undef, arr.getD 50 undef, arr.getD 51 undef]) : BaseFE hd data ⟨arr, []⟩ := ⟨fun i => arr.getD i undef, by rw [← h]⟩
theorem BaseFE.put25 {hd data : ByteArray} (a : Act) (v : Value) (h : BaseFE hd data a) : BaseFE hd data (a.put (some 25) v) := by
  obtain ⟨u, rfl⟩ := h
  exact ⟨fun i => if i = 25 then v else u i, by kernel_rfl⟩
theorem BaseFE.put26 {hd data : ByteArray} (a : Act) (v : Value) (h : BaseFE hd data a) : BaseFE hd data (a.put (some 26) v) := by
  obtain ⟨u, rfl⟩ := h
  exact ⟨fun i => if i = 26 then v else u i, by kernel_rfl⟩
theorem BaseFE.put27 {hd data : ByteArray} (a : Act) (v : Value) (h : BaseFE hd data a) : BaseFE hd data (a.put (some 27) v) := by
  obtain ⟨u, rfl⟩ := h
  exact ⟨fun i => if i = 27 then v else u i, by kernel_rfl⟩
theorem BaseFE.put28 {hd data : ByteArray} (a : Act) (v : Value) (h : BaseFE hd data a) : BaseFE hd data (a.put (some 28) v) := by
  obtain ⟨u, rfl⟩ := h
  exact ⟨fun i => if i = 28 then v else u i, by kernel_rfl⟩
theorem BaseFE.put29 {hd data : ByteArray} (a : Act) (v : Value) (h : BaseFE hd data a) : BaseFE hd data (a.put (some 29) v) := by
  obtain ⟨u, rfl⟩ := h
  exact ⟨fun i => if i = 29 then v else u i, by kernel_rfl⟩
theorem BaseFE.put30 {hd data : ByteArray} (a : Act) (v : Value) (h : BaseFE hd data a) : BaseFE hd data (a.put (some 30) v) := by
  obtain ⟨u, rfl⟩ := h
  exact ⟨fun i => if i = 30 then v else u i, by kernel_rfl⟩
theorem BaseFE.put31 {hd data : ByteArray} (a : Act) (v : Value) (h : BaseFE hd data a) : BaseFE hd data (a.put (some 31) v) := by
  obtain ⟨u, rfl⟩ := h
  exact ⟨fun i => if i = 31 then v else u i, by kernel_rfl⟩
theorem BaseFE.put8 {hd data : ByteArray} (a : Act) (v : Value) (h : BaseFE hd data a) : BaseFE hd data (a.put (some 8) v) := by
  obtain ⟨u, rfl⟩ := h
  exact ⟨fun i => if i = 8 then v else u i, by kernel_rfl⟩

def FrEnc (k l q e : Int) (data : ByteArray) (w : World) (r : Ending) (w' : World) : Prop := r = .returned (.tuple #[.string (frT k l q e data), .int .i64 (frE k l q e data)]) ∧ Below w.heap.size w w'

end Go.Proofs.YtjmoecfgpfdncaaGreatDoor
