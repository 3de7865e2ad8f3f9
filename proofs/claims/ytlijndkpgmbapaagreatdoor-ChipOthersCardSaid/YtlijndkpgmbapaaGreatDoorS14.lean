/- Texts of one claim, merged: ChL4, ChL5, ChL6, ArgsR, ArgsF, ChL7, ChL8, ArgsT. -/
import Derived.Test.YtlijndkpgmbapaaGreatDoorS13
import Derived.Test.YtlijndkpgmbapaaGreatDoorS1
import Derived.Test.YtlijndkpgmbapaaGreatDoorS5
import Derived.Test.YtlijndkpgmbapaaGreatDoorS6
import Derived.Deep.Slices
import Derived.Test.YtlijndkpgmbapaaGreatDoorS3

/- Layer 10, the laws: ChipOff. -/
namespace Go.Proofs.YtlijndkpgmbapaaGreatDoor
set_option maxRecDepth 100000
open Go.RowKit Go.Shelf Go.Proofs

/-- what is needed of the chip whose power went -/
structure OffS (c : ChS) : Prop where
  off : c.off = true
  ops : c.ops = 3
  rej : c.rej = 0
  cuts : c.cuts = 1
  wf : WfCh 3 c
  back : rdC (onCh c) 1 1 0 = 0 ∧ rdT (onCh c) 1 1 0 = pgQ 2 ∧ (rdSt (onCh c) 1 1 0).off = false

set_option maxHeartbeats 8000000 in
theorem walk_ChipOff (oa : Option Addr) (cap : Nat) (l : List ActQ) (hl : l.length ≤ maxLen) (w : World) (hT : Tabs w) (ha : ActsQ w oa l) :
    Calls Tryz.prog 4 #[.slice oa l.length cap] w fun e w' => e = .returned (.bool true) ∧ Below w.heap.size w w' := by
  have HTB : Hid (∀ w', Below w.heap.size w w' → Tabs w') := fun w' hb => hT.after hb
  have HA := Lib.hid ha
  obtain ⟨n, hn⟩ : ∃ n, l.length = n := ⟨_, rfl⟩
  have HN := Lib.hid hn
  rw [hn] at hl ⊢
  have hn2 : (n : Int) ≤ 9223372036854775807 := by unfold maxLen at hl; omega
  clear hT ha hn hl
  go_enter Tryz.func4, Tryz.ntmps4
  go_wp2_with fail
  refine (ch_works _ (HTB.out _ (Below.refl _ _))).mono ?_
  rintro e w0 ⟨rfl, hb0⟩
  have HB0 := Lib.hid hb0
  clear hb0
  go_wp2_with fail
  refine (ch_geo0 _).mono ?_
  rintro e w1 ⟨rfl, hb1⟩
  have HB1 := Lib.hid (HB0.out.trans (hb1.mono HB0.out.size))
  clear hb1 HB0
  go_wp2_with fail
  have HNW := Lib.hid (ch_new G0 (some ⟨w1.heap.size, 0, none⟩) [(2, 1, 0, 0)] 1 (by decide) _ (fs_one w1 (2, 1, 0, 0)))
  refine HNW.out.mono ?_
  rintro e w2 ⟨hy, _, hb2⟩
  obtain ⟨o, F, rfl, hc, hF⟩ := hy G0_ok
  have hb12 : Below w.heap.size w (w1.alloc (.cells (encF (2, 1, 0, 0)).toArray 40)) := HB1.out.alloc HB1.out.size _
  have E1 : Hid (EC w o F (chA cs0 [(2, 1, 0, 0)] 0) w2) := ⟨hc, fun k hk => Nat.le_trans hb12.size (hF k hk), hb12.trans (hb2.mono hb12.size)⟩
  have W0 : Hid (WfCh 0 (chA cs0 [(2, 1, 0, 0)] 0)) := chA_wf _ (by decide)
  obtain ⟨hd1, s1, hk1, hs1⟩ := chA_prog cs0 [(2, 1, 0, 0)] 0 1 fN 0 sA (by decide) rfl (KP.zero fN) (by decide) (fN_size 0 (by decide)) (by rfl) ByteArray.empty ByteArray.empty
  have hW1 := doSt_wf W0.out (by decide) 2 ((1 : Nat) : Int) ((0 : Nat) : Int) (fN 0) ByteArray.empty ByteArray.empty
  rw [hs1] at hW1
  obtain ⟨hd2, s2, hk2, hs2⟩ := chA_prog (cs0.set 1 s1) [(2, 1, 0, 0)] 1 1 fN 1 s1 (by simp [cs0]) (set_get (by decide)) hk1 (by decide) (fN_size 1 (by decide)) (by rfl) ByteArray.empty ByteArray.empty
  have hW2 := doSt_wf hW1 (by decide) 2 ((1 : Nat) : Int) ((1 : Nat) : Int) (fN 1) ByteArray.empty ByteArray.empty
  rw [hs2] at hW2
  obtain ⟨hd3, s3, hs3⟩ := chA_erase_cut ((cs0.set 1 s1).set 1 s2) [(2, 1, 0, 0)] 2 2 sA (by simp [cs0]) (by simp [cs0]) rfl 2 0 0 (by rfl) 0 ByteArray.empty ByteArray.empty ByteArray.empty
  have hW3 := doSt_wf hW2 (by decide) 5 ((2 : Nat) : Int) 0 ByteArray.empty ByteArray.empty ByteArray.empty
  rw [hs3] at hW3
  have hrd := hk2.read 1 (by decide) (by decide) (fN_size 1 (by decide))
  have hback : rdC (onCh ⟨G0, ((cs0.set 1 s1).set 1 s2).set 2 s3, [(2, 1, 0, 0)], 3, 1, 0, true, false, 0, 0⟩) 1 1 0 = 0 ∧ rdT (onCh ⟨G0, ((cs0.set 1 s1).set 1 s2).set 2 s3, [(2, 1, 0, 0)], 3, 1, 0, true, false, 0, 0⟩) 1 1 0 = pgQ 2 ∧ (rdSt (onCh ⟨G0, ((cs0.set 1 s1).set 1 s2).set 2 s3, [(2, 1, 0, 0)], 3, 1, 0, true, false, 0, 0⟩) 1 1 0).off = false := by
    have hcell : cellOf (onCh ⟨G0, ((cs0.set 1 s1).set 1 s2).set 2 s3, [(2, 1, 0, 0)], 3, 1, 0, true, false, 0, 0⟩) 1 = s2 := by simp [cellOf, onCh, cs0]
    have h := rd_calm (onCh ⟨G0, ((cs0.set 1 s1).set 1 s2).set 2 s3, [(2, 1, 0, 0)], 3, 1, 0, true, false, 0, 0⟩) 1 1 0 s2 (pgQ 2) rfl rfl ⟨by decide, by simp [onCh, cs0]⟩ hcell hrd.1 hrd.2 (by rfl)
    exact ⟨h.1, h.2.1, by rw [h.2.2]; rfl⟩
  have HOS : Hid (OffS ⟨G0, ((cs0.set 1 s1).set 1 s2).set 2 s3, [(2, 1, 0, 0)], 3, 1, 0, true, false, 0, 0⟩) := ⟨rfl, rfl, rfl, rfl, hW3, hback⟩
  obtain ⟨c3, hc3⟩ : ∃ c3 : ChS, (⟨G0, ((cs0.set 1 s1).set 1 s2).set 2 s3, [(2, 1, 0, 0)], 3, 1, 0, true, false, 0, 0⟩ : ChS) = c3 := ⟨_, rfl⟩
  rw [hc3] at HOS hs3
  obtain ⟨c2, hc2⟩ : ∃ c2, chA ((cs0.set 1 s1).set 1 s2) [(2, 1, 0, 0)] (1 + 1) = c2 := ⟨_, rfl⟩
  obtain ⟨c1, hc1⟩ : ∃ c1, chA (cs0.set 1 s1) [(2, 1, 0, 0)] (0 + 1) = c1 := ⟨_, rfl⟩
  obtain ⟨c0, hc0⟩ : ∃ c0, chA cs0 [(2, 1, 0, 0)] 0 = c0 := ⟨_, rfl⟩
  have e1 : chA (cs0.set 1 s1) [(2, 1, 0, 0)] 1 = c1 := hc1
  have e2 : chA ((cs0.set 1 s1).set 1 s2) [(2, 1, 0, 0)] 2 = c2 := hc2
  rw [hc0] at E1 W0 hd1 hs1
  rw [hc1] at hW1 hs1
  rw [e1] at hd2 hs2
  rw [hc2] at hW2 hs2
  rw [e2] at hd3 hs3
  have HD1 : Hid (doC c0 2 1 0 (pgQ 1) ByteArray.empty ByteArray.empty = 0 ∧ doSt c0 2 1 0 (pgQ 1) ByteArray.empty ByteArray.empty = c1) := ⟨hd1, hs1⟩
  have HD2 : Hid (doC c1 2 1 1 (pgQ 2) ByteArray.empty ByteArray.empty = 0 ∧ doSt c1 2 1 1 (pgQ 2) ByteArray.empty ByteArray.empty = c2) := ⟨hd2, hs2⟩
  have HD3 : Hid (doC c2 5 2 0 ByteArray.empty ByteArray.empty ByteArray.empty = 82 ∧ doSt c2 5 2 0 ByteArray.empty ByteArray.empty ByteArray.empty = c3) := ⟨hd3, hs3⟩
  have W1 := Lib.hid hW1
  have W2 := Lib.hid hW2
  clear hy hc hF hb2 hb12 HB1 HNW hd1 hk1 hs1 hW1 hd2 hk2 hs2 hW2 hd3 hs3 hW3 hrd hback hc3 hc2 hc1 hc0 e1 e2
  go_wp2_with fail
  refine (ch_pageOf 1 _ (HTB.out _ E1.out.low)).mono ?_
  rintro e w3 ⟨rfl, hb⟩
  have E2 := Lib.hid (E1.out.after hb)
  clear hb E1
  go_wp2_with fail
  refine (ch_program o F c0 1 0 (pgQ 1) ByteArray.empty ByteArray.empty W0.out.cs' (W0.out.small (by decide)) _ E2.out.ch).mono ?_
  rintro e w4 ⟨rfl, ⟨F2, hc, hg⟩, ho⟩
  rw [HD1.out.2] at hc
  rw [HD1.out.1]
  have E3 := Lib.hid (E2.out.act hc hg ho)
  clear hc hg ho E2
  go_wp2_with fail
  refine (ch_pageOf 2 _ (HTB.out _ E3.out.low)).mono ?_
  rintro e w5 ⟨rfl, hb⟩
  have E4 := Lib.hid (E3.out.after hb)
  clear hb E3
  go_wp2_with fail
  refine (ch_program o F2 c1 1 1 (pgQ 2) ByteArray.empty ByteArray.empty W1.out.cs' (W1.out.small (by decide)) _ E4.out.ch).mono ?_
  rintro e w6 ⟨rfl, ⟨F3, hc, hg⟩, ho⟩
  rw [HD2.out.2] at hc
  rw [HD2.out.1]
  have E5 := Lib.hid (E4.out.act hc hg ho)
  clear hc hg ho E4
  go_wp2_with fail
  refine (ch_erase o F3 c2 2 0 ByteArray.empty ByteArray.empty ByteArray.empty W2.out.cs' (W2.out.small (by decide)) (W2.out.count (by decide)) _ E5.out.ch).mono ?_
  rintro e w7 ⟨rfl, ⟨F4, hc, hg⟩, ho⟩
  rw [HD3.out.2] at hc
  rw [HD3.out.1]
  have E6 := Lib.hid (E5.out.act hc hg ho)
  clear hc hg ho E5 HD1 HD2 HD3 W0 W1 W2
  go_wp2_with fail
  go_loopw [5] (fun iv wr => ∃ (i : Nat) (F : Nat → Prop), i ≤ n ∧ i ≤ 50 ∧ iv = .int .i64 i ∧ Hid (EC w o F c3 wr)) (fun iv _ => 50 - (intOf iv).toNat)
  case atStart => exact ⟨0, F4, Nat.zero_le _, Nat.zero_le _, rfl, E6⟩
  case round =>
    clear E6
    obtain ⟨i, F, hi, hi50, rfl, E⟩ := hrel
    by_cases hlt : i < n ∧ i < 50
    · obtain ⟨hlt, hlt2⟩ := hlt
      obtain ⟨a, rfl, hab, hcell⟩ := HA.out i (by rw [HN.out]; exact hlt)
      obtain ⟨A, hA⟩ : ∃ A, l[i]'(by rw [HN.out]; exact hlt) = A := ⟨_, rfl⟩
      rw [hA] at hcell
      have hcl : ∀ t, t < 11 → wr.cell? ((a.add (i * 11)).add t) = (actq A)[t]? := by
        intro t ht
        rw [← hcell t ht]
        have hbl : ((a.add (i * 11)).add t).block = a.block := by rw [add_block, add_block]
        simp only [World.cell?, hbl]
        rw [E.out.low.block a.block hab]
      obtain ⟨op, ab, al, ap, p, q, r, fx, fk, fa, fb⟩ := A
      have k0 : wr.cell? (a.add (i * 11)) = some (.int .i64 op) := hcl 0 (by omega)
      have k1 : wr.cell? ⟨(a.add (i * 11)).block, (a.add (i * 11)).off + 1, none⟩ = some (.int .i64 ab) := hcl 1 (by omega)
      have k2 : wr.cell? ⟨(a.add (i * 11)).block, (a.add (i * 11)).off + 2, none⟩ = some (.int .i64 al) := hcl 2 (by omega)
      have k3 : wr.cell? ⟨(a.add (i * 11)).block, (a.add (i * 11)).off + 3, none⟩ = some (.int .i64 ap) := hcl 3 (by omega)
      have k4 : wr.cell? ⟨(a.add (i * 11)).block, (a.add (i * 11)).off + 4, none⟩ = some (.string p) := hcl 4 (by omega)
      have k5 : wr.cell? ⟨(a.add (i * 11)).block, (a.add (i * 11)).off + 5, none⟩ = some (.string q) := hcl 5 (by omega)
      have k6 : wr.cell? ⟨(a.add (i * 11)).block, (a.add (i * 11)).off + 6, none⟩ = some (.string r) := hcl 6 (by omega)
      have k7 : wr.cell? ⟨(a.add (i * 11)).block, (a.add (i * 11)).off + 7, none⟩ = some (.int .i64 fx) := hcl 7 (by omega)
      have k8 : wr.cell? ⟨(a.add (i * 11)).block, (a.add (i * 11)).off + 8, none⟩ = some (.int .i64 fk) := hcl 8 (by omega)
      have k9 : wr.cell? ⟨(a.add (i * 11)).block, (a.add (i * 11)).off + 9, none⟩ = some (.int .i64 fa) := hcl 9 (by omega)
      have k10 : wr.cell? ⟨(a.add (i * 11)).block, (a.add (i * 11)).off + 10, none⟩ = some (.int .i64 fb) := hcl 10 (by omega)
      clear hcl hcell hA
      go_wp2_with fail
      refine (ch_below op 5 _ (by decide) (by decide)).mono ?_
      rintro e w3 ⟨rfl, rfl⟩
      have hv0 := Int.emod_nonneg op (b := 5) (by decide)
      have hv5 := Int.emod_lt_of_pos op (b := 5) (by decide)
      obtain ⟨v, hv⟩ : ∃ v, op % 5 = v := ⟨_, rfl⟩
      rw [hv] at hv0 hv5 ⊢
      have hkb := Blk.new wr (actq ⟨op, ab, al, ap, p, q, r, fx, fk, fa, fb⟩) 42
      have hba : Below wr.heap.size wr (wr.alloc (.cells (actq ⟨op, ab, al, ap, p, q, r, fx, fk, fa, fb⟩) 42)) := (Below.refl _ _).alloc (Nat.le_refl _) _
      have E4 := Lib.hid (E.out.after hba)
      have hra : (wr.alloc (.cells (actq ⟨op, ab, al, ap, p, q, r, fx, fk, fa, fb⟩) 42)).rangeAt wr.heap.size 1 [.int .i64 ab, .int .i64 al, .int .i64 ap] := blk_rng hkb 1 _ (fun j u hu => by
        have hj : j < 3 := (List.getElem?_eq_some_iff.1 hu).1
        obtain rfl | rfl | rfl : j = 0 ∨ j = 1 ∨ j = 2 := by omega
        all_goals exact hu)
      have hrp : (wr.alloc (.cells (actq ⟨op, ab, al, ap, p, q, r, fx, fk, fa, fb⟩) 42)).rangeAt wr.heap.size 4 [.string p, .string q, .string r] := blk_rng hkb 4 _ (fun j u hu => by
        have hj : j < 3 := (List.getElem?_eq_some_iff.1 hu).1
        obtain rfl | rfl | rfl : j = 0 ∨ j = 1 ∨ j = 2 := by omega
        all_goals exact hu)
      have HRA := Lib.hid hra
      have HRP := Lib.hid hrp
      clear hkb hba hra hrp E k0 k1 k2 k3 k4 k5 k6 k7 k8 k9 k10 hv
      by_cases h0 : v = 0
      · subst h0
        go_wp2_with (first
          | (refine wpList_load_mid rfl 37 _ rfl wr.heap.size 1 rfl [.int .i64 ab, .int .i64 al, .int .i64 ap] _ HRA.out Tryz.underlying37 rfl size_addrC ?_)
          | (refine wpList_load_mid rfl 38 _ rfl wr.heap.size 4 rfl [.string p, .string q, .string r] _ HRP.out Tryz.underlying38 rfl size_three ?_))
        refine (ch_read o F c3 ab al ap (HOS.out.wf.cs') (HOS.out.wf.small (by decide)) _ E4.out.ch).mono ?_
        rintro e w5 ⟨rfl, ⟨F', hc, hg⟩, ho⟩
        rw [(off_rd HOS.out.off ab al ap).2] at hc
        rw [(off_rd HOS.out.off ab al ap).1]
        have E5 := Lib.hid (E4.out.act hc hg ho)
        clear hc hg ho E4 HRA HRP
        go_wp2_with fail
        refine (ch_ops o F' c3 _ E5.out.ch).mono ?_
        rintro e w6 ⟨rfl, rfl⟩
        rw [HOS.out.ops]
        go_wp2_with fail
        refine (ch_rejects o F' c3 _ E5.out.ch).mono ?_
        rintro e w6 ⟨rfl, rfl⟩
        rw [HOS.out.rej]
        go_wp2_with fail
        refine (ch_cuts o F' c3 _ E5.out.ch).mono ?_
        rintro e w6 ⟨rfl, rfl⟩
        rw [HOS.out.cuts]
        go_wp2_with fail
        refine (ch_off o F' c3 _ E5.out.ch).mono ?_
        rintro e w6 ⟨rfl, rfl⟩
        rw [HOS.out.off]
        go_wp2_with fail
        go_roundw
        case rel => exact ⟨i + 1, F', by omega, by omega, by go_num, E5⟩
        case measure => simp [intOf]; omega
      have hb0 : (v == 0) = false := by simpa using h0
      by_cases h1 : v = 1
      · subst h1
        go_wp2_with (first
          | (refine wpList_load_mid rfl 37 _ rfl wr.heap.size 1 rfl [.int .i64 ab, .int .i64 al, .int .i64 ap] _ HRA.out Tryz.underlying37 rfl size_addrC ?_)
          | (refine wpList_load_mid rfl 38 _ rfl wr.heap.size 4 rfl [.string p, .string q, .string r] _ HRP.out Tryz.underlying38 rfl size_three ?_))
        refine (ch_program o F c3 ab al p q r (HOS.out.wf.cs') (HOS.out.wf.small (by decide)) _ E4.out.ch).mono ?_
        rintro e w5 ⟨rfl, ⟨F', hc, hg⟩, ho⟩
        rw [(off_do HOS.out.off 2 ab al p q r).2] at hc
        rw [(off_do HOS.out.off 2 ab al p q r).1]
        have E5 := Lib.hid (E4.out.act hc hg ho)
        clear hc hg ho E4 HRA HRP
        go_wp2_with fail
        refine (ch_ops o F' c3 _ E5.out.ch).mono ?_
        rintro e w6 ⟨rfl, rfl⟩
        rw [HOS.out.ops]
        go_wp2_with fail
        refine (ch_rejects o F' c3 _ E5.out.ch).mono ?_
        rintro e w6 ⟨rfl, rfl⟩
        rw [HOS.out.rej]
        go_wp2_with fail
        refine (ch_cuts o F' c3 _ E5.out.ch).mono ?_
        rintro e w6 ⟨rfl, rfl⟩
        rw [HOS.out.cuts]
        go_wp2_with fail
        refine (ch_off o F' c3 _ E5.out.ch).mono ?_
        rintro e w6 ⟨rfl, rfl⟩
        rw [HOS.out.off]
        go_wp2_with fail
        go_roundw
        case rel => exact ⟨i + 1, F', by omega, by omega, by go_num, E5⟩
        case measure => simp [intOf]; omega
      have hb1 : (v == 1) = false := by simpa using h1
      by_cases h2 : v = 2
      · subst h2
        go_wp2_with (first
          | (refine wpList_load_mid rfl 37 _ rfl wr.heap.size 1 rfl [.int .i64 ab, .int .i64 al, .int .i64 ap] _ HRA.out Tryz.underlying37 rfl size_addrC ?_)
          | (refine wpList_load_mid rfl 38 _ rfl wr.heap.size 4 rfl [.string p, .string q, .string r] _ HRP.out Tryz.underlying38 rfl size_three ?_))
        refine (ch_foggy o F c3 ab al p q r (HOS.out.wf.cs') (HOS.out.wf.small (by decide)) _ E4.out.ch).mono ?_
        rintro e w5 ⟨rfl, ⟨F', hc, hg⟩, ho⟩
        rw [(off_do HOS.out.off 3 ab al p q r).2] at hc
        rw [(off_do HOS.out.off 3 ab al p q r).1]
        have E5 := Lib.hid (E4.out.act hc hg ho)
        clear hc hg ho E4 HRA HRP
        go_wp2_with fail
        refine (ch_ops o F' c3 _ E5.out.ch).mono ?_
        rintro e w6 ⟨rfl, rfl⟩
        rw [HOS.out.ops]
        go_wp2_with fail
        refine (ch_rejects o F' c3 _ E5.out.ch).mono ?_
        rintro e w6 ⟨rfl, rfl⟩
        rw [HOS.out.rej]
        go_wp2_with fail
        refine (ch_cuts o F' c3 _ E5.out.ch).mono ?_
        rintro e w6 ⟨rfl, rfl⟩
        rw [HOS.out.cuts]
        go_wp2_with fail
        refine (ch_off o F' c3 _ E5.out.ch).mono ?_
        rintro e w6 ⟨rfl, rfl⟩
        rw [HOS.out.off]
        go_wp2_with fail
        go_roundw
        case rel => exact ⟨i + 1, F', by omega, by omega, by go_num, E5⟩
        case measure => simp [intOf]; omega
      have hb2 : (v == 2) = false := by simpa using h2
      by_cases h3 : v = 3
      · subst h3
        go_wp2_with (first
          | (refine wpList_load_mid rfl 37 _ rfl wr.heap.size 1 rfl [.int .i64 ab, .int .i64 al, .int .i64 ap] _ HRA.out Tryz.underlying37 rfl size_addrC ?_)
          | (refine wpList_load_mid rfl 38 _ rfl wr.heap.size 4 rfl [.string p, .string q, .string r] _ HRP.out Tryz.underlying38 rfl size_three ?_))
        refine (ch_fine o F c3 ab al p q r (HOS.out.wf.cs') (HOS.out.wf.small (by decide)) _ E4.out.ch).mono ?_
        rintro e w5 ⟨rfl, ⟨F', hc, hg⟩, ho⟩
        rw [(off_do HOS.out.off 4 ab al p q r).2] at hc
        rw [(off_do HOS.out.off 4 ab al p q r).1]
        have E5 := Lib.hid (E4.out.act hc hg ho)
        clear hc hg ho E4 HRA HRP
        go_wp2_with fail
        refine (ch_ops o F' c3 _ E5.out.ch).mono ?_
        rintro e w6 ⟨rfl, rfl⟩
        rw [HOS.out.ops]
        go_wp2_with fail
        refine (ch_rejects o F' c3 _ E5.out.ch).mono ?_
        rintro e w6 ⟨rfl, rfl⟩
        rw [HOS.out.rej]
        go_wp2_with fail
        refine (ch_cuts o F' c3 _ E5.out.ch).mono ?_
        rintro e w6 ⟨rfl, rfl⟩
        rw [HOS.out.cuts]
        go_wp2_with fail
        refine (ch_off o F' c3 _ E5.out.ch).mono ?_
        rintro e w6 ⟨rfl, rfl⟩
        rw [HOS.out.off]
        go_wp2_with fail
        go_roundw
        case rel => exact ⟨i + 1, F', by omega, by omega, by go_num, E5⟩
        case measure => simp [intOf]; omega
      have hb3 : (v == 3) = false := by simpa using h3
      ·
        go_wp2_with (first
          | (refine wpList_load_mid rfl 37 _ rfl wr.heap.size 1 rfl [.int .i64 ab, .int .i64 al, .int .i64 ap] _ HRA.out Tryz.underlying37 rfl size_addrC ?_)
          | (refine wpList_load_mid rfl 38 _ rfl wr.heap.size 4 rfl [.string p, .string q, .string r] _ HRP.out Tryz.underlying38 rfl size_three ?_))
        refine (ch_erase o F c3 ab 0 p q r (HOS.out.wf.cs') (HOS.out.wf.small (by decide)) (HOS.out.wf.count (by decide)) _ E4.out.ch).mono ?_
        rintro e w5 ⟨rfl, ⟨F', hc, hg⟩, ho⟩
        rw [(off_do HOS.out.off 5 ab 0 p q r).2] at hc
        rw [(off_do HOS.out.off 5 ab 0 p q r).1]
        have E5 := Lib.hid (E4.out.act hc hg ho)
        clear hc hg ho E4 HRA HRP
        go_wp2_with fail
        refine (ch_ops o F' c3 _ E5.out.ch).mono ?_
        rintro e w6 ⟨rfl, rfl⟩
        rw [HOS.out.ops]
        go_wp2_with fail
        refine (ch_rejects o F' c3 _ E5.out.ch).mono ?_
        rintro e w6 ⟨rfl, rfl⟩
        rw [HOS.out.rej]
        go_wp2_with fail
        refine (ch_cuts o F' c3 _ E5.out.ch).mono ?_
        rintro e w6 ⟨rfl, rfl⟩
        rw [HOS.out.cuts]
        go_wp2_with fail
        refine (ch_off o F' c3 _ E5.out.ch).mono ?_
        rintro e w6 ⟨rfl, rfl⟩
        rw [HOS.out.off]
        go_wp2_with fail
        go_roundw
        case rel => exact ⟨i + 1, F', by omega, by omega, by go_num, E5⟩
        case measure => simp [intOf]; omega
    · have hcc : ¬ ((i : Int) < (n : Int)) ∨ ((i : Int) < (n : Int) ∧ ¬ ((i : Int) < 50)) := by omega
      clear hlt
      have HWn : Hid (WfCh 3 (onCh c3)) := by
        have h := HOS.out.wf
        exact ⟨h.cells, h.ops, h.cuts, h.rej, h.many, h.fs⟩
      rcases hcc with hcc | ⟨hcc, hcc2⟩
      all_goals
        go_wp2_with fail
        refine (ch_power o F c3 _ E.out.ch).mono ?_
        rintro e w5 ⟨rfl, ⟨F', hc, hg⟩, ho⟩
        have E5 := Lib.hid (E.out.act hc hg ho)
        clear hc hg ho E
        go_wp2_with fail
        refine (ch_read o F' (onCh c3) 1 1 0 HWn.out.cs' (HWn.out.small (by decide)) _ E5.out.ch).mono ?_
        rintro e w6 ⟨rfl, ⟨F6, hc, hg⟩, ho⟩
        rw [HOS.out.back.1, HOS.out.back.2.1]
        have E6 := Lib.hid (E5.out.act hc hg ho)
        clear hc hg ho E5
        go_wp2_with fail
        refine (ch_pageOf 2 _ (HTB.out _ E6.out.low)).mono ?_
        rintro e w7 ⟨rfl, hb⟩
        have E7 := Lib.hid (E6.out.after hb)
        clear hb E6
        go_wp2_with fail
        refine (ch_off o F6 _ _ E7.out.ch).mono ?_
        rintro e w8 ⟨rfl, rfl⟩
        rw [HOS.out.back.2.2]
        go_wp2_with fail
        go_ret
        exact ⟨rfl, E7.out.low⟩

end Go.Proofs.YtlijndkpgmbapaaGreatDoor

/- Layer 10, the laws: a chip without faults. -/
namespace Go.Proofs.YtlijndkpgmbapaaGreatDoor
set_option maxRecDepth 100000
open Go.RowKit

def fQ (i : Nat) : ByteArray := pgQ (i : Int)
theorem fQ_size (i : Nat) (h : i ≤ 100) : (fQ i).size = 99 := pgQ_size i h
/-- i lines of block b are programmed, without faults -/
structure CalmP (b i : Nat) (c : ChS) : Prop where
  is : ∃ cs s, c = chA cs [] i ∧ cs.length = 8 ∧ cs[b]? = some s ∧ KP fQ i s ∧ ∀ x ∈ cs, x.L = 6
  wf : WfCh i c
theorem CalmP.start (b : Nat) (hb : b < 8) : CalmP b 0 (chA cs0 [] 0) :=
  ⟨⟨cs0, sA, rfl, rfl, by unfold cs0; rw [List.getElem?_replicate, if_pos hb], KP.zero fQ, fun x hx => by obtain ⟨_, rfl⟩ := List.mem_replicate.1 hx; rfl⟩, chA_wf _ (Nat.zero_le _)⟩
theorem CalmP.next {b i : Nat} {c : ChS} (h : CalmP b i c) (hb : b < 8) (hi : i < 6) (q r : ByteArray) : doC c 2 (b : Nat) (i : Nat) (fQ i) q r = 0 ∧ CalmP b (i + 1) (doSt c 2 (b : Nat) (i : Nat) (fQ i) q r) := by
  obtain ⟨⟨cs, s, rfl, h1, h2, h3, h4⟩, hw⟩ := h
  obtain ⟨e1, s', k', e2⟩ := chA_prog cs [] i b fQ i s (by omega) h2 h3 hi (fQ_size i (by omega)) rfl q r
  have hw2 := doSt_wf hw (by omega) 2 (b : Nat) (i : Nat) (fQ i) q r
  rw [e2] at hw2 ⊢
  refine ⟨e1, ⟨cs.set b s', s', rfl, by simp [h1], set_get (by omega), k', fun x hx => ?_⟩, hw2⟩
  rcases List.mem_or_eq_of_mem_set hx with hx | rfl
  · exact h4 x hx
  · exact k'.l

/-- a chip without faults, of whose block b n lines are programmed; so many refusals -/
structure CalmS (b n rj m : Nat) (c : ChS) : Prop where
  off : c.off = false
  cuts : c.cuts = 0
  rej : c.rej = rj
  shk : c.shk = false
  fs : c.fs = []
  len : c.cs.length = 8
  l6 : ∀ x ∈ c.cs, x.L = 6
  wf : WfCh m c
  kp : 0 < n → ∃ s, c.cs[b]? = some s ∧ KP fQ n s
theorem CalmP.calm {b n : Nat} {c : ChS} (h : CalmP b n c) : CalmS b n 0 n c := by
  obtain ⟨⟨cs, s, rfl, h1, h2, h3, h4⟩, hw⟩ := h
  exact ⟨rfl, rfl, rfl, rfl, rfl, h1, h4, hw, fun _ => ⟨s, h2, h3⟩⟩
theorem CalmS.how {b n rj m : Nat} {c : ChS} (h : CalmS b n rj m c) (op : Int) : howF c op = f0 := by
  unfold howF
  rw [h.fs]; rfl
theorem cell_get {c : ChS} {b : Nat} (hb : b < c.cs.length) : c.cs[b]? = some (cellOf c (b : Nat)) := by
  unfold cellOf
  rw [Int.toNat_natCast, List.getD_eq_getElem?_getD, List.getElem?_eq_getElem hb]; rfl
theorem CalmS.refuse {b n rj m : Nat} {c : ChS} (h : CalmS b n rj m c) (hb : b < 8) (hm : m < 1000000000) (op line : Int) (p q r : ByteArray) (h1 : opC (cellOf c (b : Nat)) op line p q r f0 = 80) (h2 : opSt (cellOf c (b : Nat)) op line p q r f0 = cellOf c (b : Nat)) :
    doC c op (b : Nat) line p q r = 80 ∧ CalmS b n (rj + 1) (m + 1) (doSt c op (b : Nat) line p q r) := by
  have hw := doSt_wf h.wf hm op (b : Nat) line p q r
  have hx : chHas c (b : Nat) := ⟨by omega, by have := h.len; omega⟩
  have hg := cell_get (c := c) (b := b) (by have := h.len; omega)
  have e : doSt c op (b : Nat) line p q r = endCh (setCh (opsCh c) b (cellOf c (b : Nat))) 80 := by
    unfold doSt
    rw [if_neg (by rw [h.off]; simp), if_pos hx, h.how op, h1, h2, Int.toNat_natCast]
  refine ⟨by unfold doC; rw [if_neg (by rw [h.off]; simp), if_pos hx, h.how op, h1], ?_⟩
  rw [e] at hw ⊢
  have hset : c.cs.set b (cellOf c (b : Nat)) = c.cs := by
    apply List.ext_getElem?
    intro j
    rw [List.getElem?_set]
    by_cases e : b = j
    · subst e; rw [if_pos rfl, if_pos (by have := h.len; omega), hg]
    · rw [if_neg e]
  refine ⟨h.off, h.cuts, by show c.rej + 1 = rj + 1; rw [h.rej], h.shk, h.fs, by show (c.cs.set b _).length = 8; rw [List.length_set]; exact h.len, ?_, hw, ?_⟩
  · show ∀ x ∈ c.cs.set b (cellOf c (b : Nat)), x.L = 6
    rw [hset]; exact h.l6
  · show 0 < n → ∃ s, (c.cs.set b (cellOf c (b : Nat)))[b]? = some s ∧ KP fQ n s
    rw [hset]; exact h.kp
theorem CalmS.prog {b n rj m : Nat} {c : ChS} (h : CalmS b n rj m c) (hb : b < 8) (hm : m < 1000000000) (line : Int) (hl : 7 ≤ line) (p q r : ByteArray) : doC c 2 (b : Nat) line p q r = 80 ∧ CalmS b n (rj + 1) (m + 1) (doSt c 2 (b : Nat) line p q r) := by
  have hg := cell_get (c := c) (b := b) (by have := h.len; omega)
  have hL : (cellOf c (b : Nat)).L = 6 := h.l6 _ (List.mem_of_getElem? hg)
  have hno := pr_no (s := cellOf c (b : Nat)) (line := line) (p := p) (k := 0) (a := 0) (b := 0) (fun hh => by have := hh.2.2.2.2.1; omega)
  exact h.refuse hb hm 2 line p q r hno.2 hno.1
theorem twoSt_L (s : St) (line : Int) (p q r : ByteArray) (f : Bool) (k a b : Int) : (twoSt s line p q r f k a b).L = s.L := by
  unfold twoSt
  split
  · rw [(end_same _ _).1]; rfl
  · rfl
theorem CalmS.foggy {b n rj m : Nat} {c : ChS} (h : CalmS b n rj m c) (hb : b < 8) (hm : m < 1000000000) (line : Int) (p q r : ByteArray) :
    (doC c 3 (b : Nat) line p q r = 80 ∧ CalmS b n (rj + 1) (m + 1) (doSt c 3 (b : Nat) line p q r)) ∨ (n = 0 ∧ doC c 3 (b : Nat) line p q r = 0 ∧ CalmS b n rj (m + 1) (doSt c 3 (b : Nat) line p q r)) := by
  have hg := cell_get (c := c) (b := b) (by have := h.len; omega)
  by_cases hok : TwoOk (cellOf c (b : Nat)) line p q r false
  · have hn : n = 0 := by
      rcases Nat.eq_zero_or_pos n with h0 | h0
      · exact h0
      · obtain ⟨s, h1, h2⟩ := h.kp h0
        rw [hg] at h1
        obtain rfl := Option.some.inj h1
        have hmo := hok.2.2.1
        rcases h2.mode with h3 | h3
        · omega
        · exact absurd h3 hmo
    subst hn
    have hw := doSt_wf h.wf hm 3 (b : Nat) line p q r
    have hx : chHas c (b : Nat) := ⟨by omega, by have := h.len; omega⟩
    have h1 : opC (cellOf c (b : Nat)) 3 line p q r f0 = 0 := by
      show twoC (cellOf c (b : Nat)) line p q r false 0 = 0
      unfold twoC
      rw [if_pos hok]; rfl
    have e : doSt c 3 (b : Nat) line p q r = setCh (opsCh c) b (twoSt (cellOf c (b : Nat)) line p q r false 0 0 0) := by
      unfold doSt
      rw [if_neg (by rw [h.off]; simp), if_pos hx, h.how 3, h1, Int.toNat_natCast]
      rfl
    refine Or.inr ⟨rfl, by unfold doC; rw [if_neg (by rw [h.off]; simp), if_pos hx, h.how 3, h1], ?_⟩
    rw [e] at hw ⊢
    refine ⟨h.off, h.cuts, h.rej, h.shk, h.fs, by show (c.cs.set b _).length = 8; rw [List.length_set]; exact h.len, fun x hx => ?_, hw, fun h0 => absurd h0 (Nat.lt_irrefl 0)⟩
    have hx : x ∈ c.cs.set b (twoSt (cellOf c (b : Nat)) line p q r false 0 0 0) := hx
    rcases List.mem_or_eq_of_mem_set hx with hx | rfl
    · exact h.l6 x hx
    · rw [twoSt_L]; exact h.l6 _ (List.mem_of_getElem? hg)
  · have hno := two_no (k := 0) (a := 0) (b := 0) hok
    exact Or.inl (h.refuse hb hm 3 line p q r hno.2 hno.1)
theorem CalmS.read {b n rj m : Nat} {c : ChS} (h : CalmS b n rj m c) (hb : b < 8) (i : Nat) (hi : i < n) (hn : n ≤ 6) : rdC c (b : Nat) (i : Nat) 0 = 0 ∧ rdT c (b : Nat) (i : Nat) 0 = fQ i ∧ CalmS b n rj (m + 1) (rdSt c (b : Nat) (i : Nat) 0) := by
  obtain ⟨s, h1, h2⟩ := h.kp (by omega)
  have hg := cell_get (c := c) (b := b) (by have := h.len; omega)
  rw [hg] at h1
  have hs := Option.some.inj h1
  have hr := h2.read i hi hn (fQ_size i (by omega))
  have hw := rdSt_wf h.wf (b : Nat) (i : Nat) 0
  have hx : chHas c (b : Nat) := ⟨by omega, by have := h.len; omega⟩
  obtain ⟨e1, e2, e3⟩ := rd_calm c (b : Nat) (i : Nat) 0 s (fQ i) h.off h.shk hx hs hr.1 hr.2 (by rw [h.fs]; rfl)
  refine ⟨e1, e2, ?_⟩
  rw [e3] at hw ⊢
  exact ⟨h.off, h.cuts, h.rej, h.shk, h.fs, h.len, h.l6, hw, h.kp⟩

end Go.Proofs.YtlijndkpgmbapaaGreatDoor

/- Layer 10, the laws: ChipCalm. -/
namespace Go.Proofs.YtlijndkpgmbapaaGreatDoor
set_option maxRecDepth 100000
open Go.RowKit Go.Shelf Go.Proofs

set_option maxHeartbeats 8000000 in
theorem walk_ChipCalm (block nn : Int) (oa : Option Addr) (cap : Nat) (l : List ActQ) (hl : l.length ≤ maxLen) (w : World) (hT : Tabs w) (ha : ActsQ w oa l) :
    Calls Tryz.prog 6 #[.int .i64 block, .int .i64 nn, .slice oa l.length cap] w fun e w' => e = .returned (.bool true) ∧ Below w.heap.size w w' := by
  have HTB : Hid (∀ w', Below w.heap.size w w' → Tabs w') := fun w' hb => hT.after hb
  have HA := Lib.hid ha
  obtain ⟨nl, hn⟩ : ∃ nl, l.length = nl := ⟨_, rfl⟩
  have HN := Lib.hid hn
  rw [hn] at hl ⊢
  have hn2 : (nl : Int) ≤ 9223372036854775807 := by unfold maxLen at hl; omega
  clear hT ha hn hl
  go_enter Tryz.func6, Tryz.ntmps6
  go_wp2_with fail
  refine (ch_works _ (HTB.out _ (Below.refl _ _))).mono ?_
  rintro e w0 ⟨rfl, hb0⟩
  have HB0 := Lib.hid hb0
  clear hb0
  go_wp2_with fail
  refine (ch_geo0 _).mono ?_
  rintro e w1 ⟨rfl, hb1⟩
  have HB1 := Lib.hid (HB0.out.trans (hb1.mono HB0.out.size))
  clear hb1 HB0
  go_wp2_with fail
  refine (ch_new G0 none [] 0 (by decide) _ (FsAt.nil _ _)).mono ?_
  rintro e w2 ⟨hy, _, hb2⟩
  obtain ⟨o, F, rfl, hc, hF⟩ := hy G0_ok
  have E1 : Hid (EC w o F (chA cs0 [] 0) w2) := ⟨hc, fun k hk => Nat.le_trans HB1.out.size (hF k hk), HB1.out.trans (hb2.mono HB1.out.size)⟩
  clear hy hc hF hb2 HB1
  go_wp2_with fail
  refine (ch_below block 8 _ (by decide) (by decide)).mono ?_
  rintro e w3 ⟨rfl, rfl⟩
  obtain ⟨b, hb⟩ : ∃ b : Nat, block % 8 = b := ⟨(block % 8).toNat, by have := Int.emod_nonneg block (b := 8) (by decide); omega⟩
  have hb8 : b < 8 := by have := Int.emod_lt_of_pos block (b := 8) (by decide); omega
  rw [hb]
  have HBB := Lib.hid hb
  clear hb
  go_wp2_with fail
  refine (ch_below nn 7 _ (by decide) (by decide)).mono ?_
  rintro e w3 ⟨rfl, rfl⟩
  obtain ⟨n, hn⟩ : ∃ n : Nat, nn % 7 = n := ⟨(nn % 7).toNat, by have := Int.emod_nonneg nn (b := 7) (by decide); omega⟩
  have hn6 : n ≤ 6 := by have := Int.emod_lt_of_pos nn (b := 7) (by decide); omega
  rw [hn]
  have P0 := Lib.hid (CalmP.start b hb8)
  clear hn
  go_wp2_with fail
  go_loopw [35] (fun iv wr => ∃ (k : Nat) (F : Nat → Prop) (c : ChS), k ≤ n ∧ iv = .int .i64 k ∧ Hid (EC w o F c wr) ∧ Hid (CalmP b k c)) (fun iv _ => n - (intOf iv).toNat)
  case atStart => exact ⟨0, F, _, Nat.zero_le _, rfl, E1, P0⟩
  case round =>
    clear E1 P0
    obtain ⟨k, F, c, hk, rfl, E, P⟩ := hrel
    by_cases hlt : k < n
    · have hltz : (k : Int) < (n : Int) := by omega
      have HPN := Lib.hid (P.out.next hb8 (by omega) ByteArray.empty ByteArray.empty)
      go_wp2_with fail
      refine (ch_pageOf (k : Nat) _ (HTB.out _ E.out.low)).mono ?_
      rintro e w4 ⟨rfl, hbb⟩
      have E2 := Lib.hid (E.out.after hbb)
      clear hbb E
      go_wp2_with fail
      refine (ch_program o F c (b : Nat) (k : Nat) (pgQ (k : Nat)) ByteArray.empty ByteArray.empty P.out.wf.cs' (P.out.wf.small (by omega)) _ E2.out.ch).mono ?_
      rintro e w5 ⟨rfl, ⟨F2, hc, hg⟩, ho⟩
      rw [show doC c 2 (b : Nat) (k : Nat) (pgQ (k : Nat)) ByteArray.empty ByteArray.empty = 0 from HPN.out.1]
      have E3 := Lib.hid (E2.out.act hc hg ho)
      have P3 : Hid (CalmP b (k + 1) (doSt c 2 (b : Nat) (k : Nat) (pgQ (k : Nat)) ByteArray.empty ByteArray.empty)) := HPN.out.2
      clear hc hg ho E2 HPN P
      go_wp2_with fail
      go_roundw
      case rel => exact ⟨k + 1, F2, _, by omega, by go_num, E3, P3⟩
      case measure => simp [intOf]; omega
    · obtain rfl : k = n := by omega
      have hltz : ¬ (k : Int) < (k : Int) := by omega
      have C0 := Lib.hid P.out.calm
      clear P
      go_wp2_with fail
      go_loopw [10, 11] (fun rv iv wr => ∃ (i rj : Nat) (F : Nat → Prop) (c : ChS), i ≤ nl ∧ i ≤ 40 ∧ rj ≤ i ∧ rv = .int .i64 rj ∧ iv = .int .i64 i ∧ Hid (EC w o F c wr) ∧ Hid (CalmS b k rj (k + i) c)) (fun _ iv _ => 40 - (intOf iv).toNat)
      case atStart => exact ⟨0, 0, F, c, Nat.zero_le _, Nat.zero_le _, Nat.le_refl _, rfl, rfl, E, C0⟩
      case round =>
        clear E C0
        obtain ⟨i, rj, F, c, hi, hi40, hrj, rfl, rfl, E, C⟩ := hrel
        by_cases hlt : i < nl ∧ i < 40
        · obtain ⟨hlt, hlt2⟩ := hlt
          obtain ⟨a, rfl, hab, hcell⟩ := HA.out i (by rw [HN.out]; exact hlt)
          obtain ⟨A, hA⟩ : ∃ A, l[i]'(by rw [HN.out]; exact hlt) = A := ⟨_, rfl⟩
          rw [hA] at hcell
          have hcl : ∀ t, t < 11 → wr.cell? ((a.add (i * 11)).add t) = (actq A)[t]? := by
            intro t ht
            rw [← hcell t ht]
            have hbl : ((a.add (i * 11)).add t).block = a.block := by rw [add_block, add_block]
            simp only [World.cell?, hbl]
            rw [E.out.low.block a.block hab]
          obtain ⟨op, ab, al, ap, p, q, r, fx, fk, fa, fb⟩ := A
          have k0 : wr.cell? (a.add (i * 11)) = some (.int .i64 op) := hcl 0 (by omega)
          have k1 : wr.cell? ⟨(a.add (i * 11)).block, (a.add (i * 11)).off + 1, none⟩ = some (.int .i64 ab) := hcl 1 (by omega)
          have k2 : wr.cell? ⟨(a.add (i * 11)).block, (a.add (i * 11)).off + 2, none⟩ = some (.int .i64 al) := hcl 2 (by omega)
          have k3 : wr.cell? ⟨(a.add (i * 11)).block, (a.add (i * 11)).off + 3, none⟩ = some (.int .i64 ap) := hcl 3 (by omega)
          have k4 : wr.cell? ⟨(a.add (i * 11)).block, (a.add (i * 11)).off + 4, none⟩ = some (.string p) := hcl 4 (by omega)
          have k5 : wr.cell? ⟨(a.add (i * 11)).block, (a.add (i * 11)).off + 5, none⟩ = some (.string q) := hcl 5 (by omega)
          have k6 : wr.cell? ⟨(a.add (i * 11)).block, (a.add (i * 11)).off + 6, none⟩ = some (.string r) := hcl 6 (by omega)
          have k7 : wr.cell? ⟨(a.add (i * 11)).block, (a.add (i * 11)).off + 7, none⟩ = some (.int .i64 fx) := hcl 7 (by omega)
          have k8 : wr.cell? ⟨(a.add (i * 11)).block, (a.add (i * 11)).off + 8, none⟩ = some (.int .i64 fk) := hcl 8 (by omega)
          have k9 : wr.cell? ⟨(a.add (i * 11)).block, (a.add (i * 11)).off + 9, none⟩ = some (.int .i64 fa) := hcl 9 (by omega)
          have k10 : wr.cell? ⟨(a.add (i * 11)).block, (a.add (i * 11)).off + 10, none⟩ = some (.int .i64 fb) := hcl 10 (by omega)
          clear hcl hcell hA
          go_wp2_with fail
          refine (ch_below op 2 _ (by decide) (by decide)).mono ?_
          rintro e w3 ⟨rfl, rfl⟩
          obtain ⟨v, hv⟩ : ∃ v, op % 2 = v := ⟨_, rfl⟩
          rw [hv]
          have hkb := Blk.new wr (actq ⟨op, ab, al, ap, p, q, r, fx, fk, fa, fb⟩) 42
          have hba : Below wr.heap.size wr (wr.alloc (.cells (actq ⟨op, ab, al, ap, p, q, r, fx, fk, fa, fb⟩) 42)) := (Below.refl _ _).alloc (Nat.le_refl _) _
          have E4 := Lib.hid (E.out.after hba)
          have hra : (wr.alloc (.cells (actq ⟨op, ab, al, ap, p, q, r, fx, fk, fa, fb⟩) 42)).rangeAt wr.heap.size 1 [.int .i64 ab, .int .i64 al, .int .i64 ap] := blk_rng hkb 1 _ (fun j u hu => by
            have hj : j < 3 := (List.getElem?_eq_some_iff.1 hu).1
            obtain rfl | rfl | rfl : j = 0 ∨ j = 1 ∨ j = 2 := by omega
            all_goals exact hu)
          have hrp : (wr.alloc (.cells (actq ⟨op, ab, al, ap, p, q, r, fx, fk, fa, fb⟩) 42)).rangeAt wr.heap.size 4 [.string p, .string q, .string r] := blk_rng hkb 4 _ (fun j u hu => by
            have hj : j < 3 := (List.getElem?_eq_some_iff.1 hu).1
            obtain rfl | rfl | rfl : j = 0 ∨ j = 1 ∨ j = 2 := by omega
            all_goals exact hu)
          have HRA := Lib.hid hra
          have HRP := Lib.hid hrp
          clear hkb hba hra hrp E k0 k1 k2 k3 k4 k5 k6 k7 k8 k9 k10 hv
          by_cases h0 : v = 0
          · subst h0
            have hst := C.out.foggy hb8 (by omega) al p q r
            go_wp2_with (first
          | (refine wpList_load_mid rfl 37 _ rfl wr.heap.size 1 rfl [.int .i64 ab, .int .i64 al, .int .i64 ap] _ HRA.out Tryz.underlying37 rfl size_addrC ?_)
          | (refine wpList_load_mid rfl 38 _ rfl wr.heap.size 4 rfl [.string p, .string q, .string r] _ HRP.out Tryz.underlying38 rfl size_three ?_))
            refine (ch_foggy o F c (b : Nat) al p q r C.out.wf.cs' (C.out.wf.small (by omega)) _ E4.out.ch).mono ?_
            rintro e w5 ⟨rfl, ⟨F', hc, hg⟩, ho⟩
            have E5 := Lib.hid (E4.out.act hc hg ho)
            obtain ⟨c', hc'⟩ : ∃ c', doSt c 3 (b : Nat) al p q r = c' := ⟨_, rfl⟩
            rw [hc'] at E5 hst
            clear hc hg ho E4 HRA HRP hc'
            rcases hst with ⟨h80, hcs⟩ | ⟨hk0, h00, hcs⟩
            · rw [h80]
              have CS := Lib.hid hcs
              clear h80 hcs C
              go_wp2_with fail
              go_roundw
              case rel => exact ⟨i + 1, rj + 1, F', c', by omega, by omega, by omega, by go_num, by go_num, E5, CS⟩
              case measure => simp [intOf]; omega
            · rw [h00]
              have CS := Lib.hid hcs
              have HK0 := Lib.hid hk0
              have hkz : ¬ (0 : Int) < (k : Int) := by omega
              clear h00 hcs C hk0
              go_wp2_with fail
              go_roundw
              case rel =>
                repeat apply Exists.intro
                refine ⟨⟨i + 1, rj, F', c', by omega, by omega, by omega, ?_, ?_, E5, CS⟩, ?_⟩
                rotate_left 2
                · obtain rfl : k = 0 := HK0.out
                  exact rfl
                · exact rfl
                · go_num
              case measure => simp [intOf]; omega
          · have hb0 : (v == 0) = false := by simpa using h0
            obtain ⟨mx, hmx⟩ : ∃ mx, max al 7 = mx := ⟨_, rfl⟩
            have hm7 : 7 ≤ mx := by omega
            have hst := C.out.prog hb8 (by omega) mx hm7 p q r
            go_wp2_with fail
            refine (ch_program o F c (b : Nat) mx p q r C.out.wf.cs' (C.out.wf.small (by omega)) _ E4.out.ch).mono ?_
            rintro e w5 ⟨rfl, ⟨F', hc, hg⟩, ho⟩
            have E5 := Lib.hid (E4.out.act hc hg ho)
            obtain ⟨c', hc'⟩ : ∃ c', doSt c 2 (b : Nat) mx p q r = c' := ⟨_, rfl⟩
            rw [hc'] at E5 hst
            rw [hst.1]
            have CS := Lib.hid hst.2
            clear hc hg ho E4 HRA HRP hc' hst C hmx hm7
            go_wp2_with fail
            go_roundw
            case rel => exact ⟨i + 1, rj + 1, F', c', by omega, by omega, by omega, by go_num, by go_num, E5, CS⟩
            case measure => simp [intOf]; omega
        · have hcc : ¬ ((i : Int) < (nl : Int)) ∨ ((i : Int) < (nl : Int) ∧ ¬ ((i : Int) < 40)) := by omega
          clear hlt
          rcases hcc with hcc | ⟨hcc, hcc2⟩
          all_goals
            go_wp2_with fail
            refine (ch_rejects o F c _ E.out.ch).mono ?_
            rintro e w5 ⟨rfl, rfl⟩
            rw [C.out.rej]
            go_wp2_with fail
            refine (ch_cuts o F c _ E.out.ch).mono ?_
            rintro e w5 ⟨rfl, rfl⟩
            rw [C.out.cuts]
            go_wp2_with fail
            refine (ch_off o F c _ E.out.ch).mono ?_
            rintro e w5 ⟨rfl, rfl⟩
            rw [C.out.off]
            go_wp2_with fail
            go_loopw [108] (fun iv wr => ∃ (j : Nat) (F : Nat → Prop) (c : ChS), j ≤ k ∧ iv = .int .i64 j ∧ Hid (EC w o F c wr) ∧ Hid (CalmS b k rj (k + i + j) c)) (fun iv _ => k - (intOf iv).toNat)
            case atStart => exact ⟨0, F, c, Nat.zero_le _, rfl, E, C⟩
            case round =>
              clear E C
              obtain ⟨j, F, c, hj, rfl, E, C⟩ := hrel
              by_cases hlt : j < k
              · have hltz : (j : Int) < (k : Int) := by omega
                have hrd := C.out.read hb8 j hlt hn6
                have HRD := Lib.hid hrd
                clear hrd
                go_wp2_with fail
                refine (ch_read o F c (b : Nat) (j : Nat) 0 C.out.wf.cs' (C.out.wf.small (by omega)) _ E.out.ch).mono ?_
                rintro e w5 ⟨rfl, ⟨F', hc, hg⟩, ho⟩
                rw [HRD.out.1, HRD.out.2.1]
                have E5 := Lib.hid (E.out.act hc hg ho)
                have CS := Lib.hid HRD.out.2.2
                clear hc hg ho E C HRD
                go_wp2_with fail
                refine (ch_pageOf (j : Nat) _ (HTB.out _ E5.out.low)).mono ?_
                rintro e w6 ⟨rfl, hbb⟩
                have E6 := Lib.hid (E5.out.after hbb)
                clear hbb E5
                have hpq : pgQ (j : Nat) = fQ j := rfl
                rw [hpq]
                clear hpq
                generalize fQ j = pj
                go_wp2_with fail
                go_roundw
                case rel => exact ⟨j + 1, F', _, by omega, by go_num, E6, CS⟩
                case measure => simp [intOf]; omega
              · obtain rfl : j = k := by omega
                have hltz : ¬ (j : Int) < (j : Int) := by omega
                go_wp2_with fail
                go_ret
                exact ⟨rfl, E.out.low⟩

end Go.Proofs.YtlijndkpgmbapaaGreatDoor

/- Layer 10: the laws' walks, as they are taken. -/
namespace Go.Proofs.YtlijndkpgmbapaaGreatDoor
open Go.RowKit

theorem walkw_ChipOff (oa : Option Addr) (cap : Nat) (l : List ActQ) (hl : l.length ≤ maxLen) (w : World) (hT : Tabs w) (ha : ActsQ w oa l) :
    Calls Tryz.prog 4 #[.slice oa l.length cap] w fun e w' => e = .returned (.bool true) ∧ Below w.heap.size w w' := walk_ChipOff oa cap l hl w hT ha
theorem walkw_ChipCalm (block nn : Int) (oa : Option Addr) (cap : Nat) (l : List ActQ) (_ : (Lit.int .i64 block).wf = true) (_ : (Lit.int .i64 nn).wf = true) (hl : l.length ≤ maxLen) (w : World) (hT : Tabs w) (ha : ActsQ w oa l) :
    Calls Tryz.prog 6 #[.int .i64 block, .int .i64 nn, .slice oa l.length cap] w fun e w' => e = .returned (.bool true) ∧ Below w.heap.size w w' := walk_ChipCalm block nn oa cap l hl w hT ha

end Go.Proofs.YtlijndkpgmbapaaGreatDoor

/- Parameters that are slices of faults: opened; shut again by Below.trod. -/
namespace Go.Proofs.YtlijndkpgmbapaaGreatDoor
set_option maxRecDepth 100000
open Go.RowKit Go.ChangeShapes Go.WideShapes Go.ChangeAt

section
variable {H : Type} {enc : TypeId × Value → H} {P : Program} {w : World} {base : Nat} {sp : Nat → Bool} {held : Bool}
theorem open_fault {e : TypeId} {g0 g1 g2 g3 : Field} {fuel : Nat} {cs : List Value} {x : DataW H × List MemPlace}
    (h4 : P.underlying e = some (.struct #[g0, g1, g2, g3])) (hC : P.cellsOf e = 4) (go : g0.offset = 0 ∧ g1.offset = 1 ∧ g2.offset = 2 ∧ g3.offset = 3) (gc : P.cellsOf g0.type = 1 ∧ P.cellsOf g1.type = 1 ∧ P.cellsOf g2.type = 1 ∧ P.cellsOf g3.type = 1)
    (k0 : P.underlying g0.type = some (.int .i64)) (k1 : P.underlying g1.type = some (.int .i64)) (k2 : P.underlying g2.type = some (.int .i64)) (k3 : P.underlying g3.type = some (.int .i64))
    (h : DataW.trod enc P w base sp held fuel e cs = some x) : ∃ A : Fa, cs = encF A := by
  obtain ⟨us, m2, _, _, hl, hlu, hu⟩ := DataW.trod_struct h4 h
  have hl4 : us.length = 4 := by simpa using hlu
  have hc4 : cs.length = 4 := hl.trans hC
  obtain ⟨c0, c1, c2, c3, rfl⟩ : ∃ a b c d, cs = [a, b, c, d] := by
    match cs, hc4 with
    | [a, b, c, d], _ => exact ⟨a, b, c, d, rfl⟩
  obtain ⟨q0, q1, q2, q3⟩ := go
  obtain ⟨r0, r1, r2, r3⟩ := gc
  have u0 := hu 0 g0 rfl
  rw [q0, r0, List.getElem?_eq_getElem (by omega)] at u0
  obtain ⟨t0, v0, _⟩ := DataW.trod_int k0 u0
  have u1 := hu 1 g1 rfl
  rw [q1, r1, List.getElem?_eq_getElem (by omega)] at u1
  obtain ⟨t1, v1, _⟩ := DataW.trod_int k1 u1
  have u2 := hu 2 g2 rfl
  rw [q2, r2, List.getElem?_eq_getElem (by omega)] at u2
  obtain ⟨t2, v2, _⟩ := DataW.trod_int k2 u2
  have u3 := hu 3 g3 rfl
  rw [q3, r3, List.getElem?_eq_getElem (by omega)] at u3
  obtain ⟨t3, v3, _⟩ := DataW.trod_int k3 u3
  simp at v0 v1 v2 v3
  exact ⟨(t0, t1, t2, t3), by rw [v0, v1, v2, v3]; rfl⟩
end

theorem open_faults {H : Type} {enc : TypeId × Value → H} {w : World} {base : Nat} {r : Go.Reach} {b0 : Nat} {v : Value} {d : DataW H} {ps : List MemPlace}
    (hval : Value.okWide Tryz.prog w r b0 24 v) (hd : DataW.Trod enc Tryz.prog w base (fun _ => true) true 24 v d ps) :
    ∃ (oa : Option Addr) (cap : Nat) (l : List Fa), v = .slice oa l.length cap ∧ l.length ≤ maxLen ∧ FsAt w oa l := by
  have hu := Tryz.underlying40
  have hC : Tryz.prog.cellsOf 40 = 4 := by kernel_rfl
  obtain ⟨a0, len, cap, rfl⟩ := okWide_slice Tryz.underlying24 hval
  obtain ⟨fuel, hf⟩ := hd
  rcases Deep.open_slice Tryz.underlying24 hf with ⟨hcs, _⟩ | ⟨a, len', cap', m, n, D, Pl, hcs, _, hl, hm, hmm, _, hx⟩
  · simp [Value.cells] at hcs
    obtain ⟨rfl, rfl, rfl⟩ := hcs
    exact ⟨none, 0, [], rfl, Nat.zero_le _, FsAt.nil _ _⟩
  · simp [Value.cells] at hcs
    obtain ⟨rfl, rfl, rfl⟩ := hcs
    simp only [if_true] at hmm
    have each : ∀ i, i < len → ∃ A : Fa, ∀ t, t < 4 → w.cell? ((a.add (i * 4)).add t) = (encF A)[t]? := by
      intro i hi
      obtain ⟨cs', h1, h2⟩ := hx i (by omega)
      rw [hC] at h1
      obtain ⟨_, hlen, hcell⟩ := World.cells?_some h1
      obtain ⟨A, hA⟩ : ∃ A : Fa, cs' = encF A := open_fault hu hC ⟨rfl, rfl, rfl, rfl⟩ ⟨by kernel_rfl, by kernel_rfl, by kernel_rfl, by kernel_rfl⟩ Tryz.underlying3 Tryz.underlying3 Tryz.underlying3 Tryz.underlying3 h2
      subst hA
      exact ⟨A, fun t ht => hcell t ht⟩
    obtain ⟨f, hf2⟩ := Deep.choose_lt each
    refine ⟨some a, cap, (List.range len).map f, by simp, by simp; omega, fun hne => ?_⟩
    have hlen : 0 < len := by
      rcases Nat.eq_zero_or_pos len with h | h
      · subst h; simp at hne
      · exact h
    obtain ⟨b, off, spot⟩ := a
    have h00 : w.cell? (((⟨b, off, spot⟩ : Addr).add (0 * 4)).add 0) = some (.int .i64 (f 0).1) := hf2 0 hlen 0 (by omega)
    have hspot : spot = none := by simpa [Addr.add] using World.cell?_spot h00
    subst hspot
    refine ⟨b, off, rfl, ?_, fun i hi j v hj => ?_⟩
    · have := cell_lt h00
      rwa [add_block, add_block] at this
    · have hi2 : i < len := by simpa using hi
      have hj4 : j < 4 := (List.getElem?_eq_some_iff.1 hj).1
      have h := hf2 i hi2 j hj4
      rw [Addr.add_lit, Addr.add_lit] at h
      rw [h]
      simpa using hj

end Go.Proofs.YtlijndkpgmbapaaGreatDoor

/- Layer 10, the laws: a chip of which one block alone is touched; two chips. -/
namespace Go.Proofs.YtlijndkpgmbapaaGreatDoor
set_option maxRecDepth 100000
open Go.RowKit

def Mild (s : St) : Prop := s.bad = false ∧ s.slc = 0 ∧ s.tlc = 0
/-- a chip whose cells, but that of block 0, are these -/
structure OthS (cs : List St) (m : Nat) (c : ChS) : Prop where
  g : c.G = G0
  len : c.cs.length = 8
  same : ∀ j, 0 < j → c.cs[j]? = cs[j]?
  wf : WfCh m c
theorem OthS.act {cs : List St} {m : Nat} {c : ChS} (h : OthS cs m c) (hm : m < 1000000000) (op line : Int) (p q r : ByteArray) : OthS cs (m + 1) (doSt c op 0 line p q r) := by
  have hw := doSt_wf h.wf hm op 0 line p q r
  have hx : chHas c 0 := ⟨by decide, by have := h.len; omega⟩
  by_cases ho : c.off = true
  · rw [(off_do ho op 0 line p q r).2] at hw ⊢
    exact ⟨h.g, h.len, h.same, hw⟩
  · have e : doSt c op 0 line p q r = endCh (setCh (opsCh c) 0 (opSt (cellOf c 0) op line p q r (howF c op))) (opC (cellOf c 0) op line p q r (howF c op)) := by
      unfold doSt
      rw [if_neg ho, if_pos hx]
      rfl
    rw [e] at hw ⊢
    obtain ⟨e1, _, _, e4, _, _⟩ := endCh_same (setCh (opsCh c) 0 (opSt (cellOf c 0) op line p q r (howF c op))) (opC (cellOf c 0) op line p q r (howF c op))
    refine ⟨e4.trans h.g, ?_, fun j hj => ?_, hw⟩
    · rw [e1]; show (c.cs.set 0 _).length = 8; rw [List.length_set]; exact h.len
    · rw [e1]
      show (c.cs.set 0 _)[j]? = cs[j]?
      rw [List.getElem?_set, if_neg (by omega)]
      exact h.same j hj
theorem OthS.on {cs : List St} {m : Nat} {c : ChS} (h : OthS cs m c) : OthS cs m (onCh c) :=
  ⟨h.g, h.len, h.same, ⟨h.wf.cells, h.wf.ops, h.wf.cuts, h.wf.rej, h.wf.many, h.wf.fs⟩⟩

/-- a chip without faults -/
structure CalmR (cs : List St) (m : Nat) (c : ChS) : Prop where
  off : c.off = false
  shk : c.shk = false
  fs : c.fs = []
  cells : c.cs = cs
  wf : WfCh m c
theorem OthS.calm {cs : List St} {m : Nat} {c : ChS} (h : OthS cs m c) : CalmR c.cs m (newCh c.G c.cs []) :=
  ⟨rfl, rfl, rfl, rfl, ⟨h.wf.cells, Nat.zero_le _, Nat.zero_le _, Nat.zero_le _, h.wf.many, Nat.zero_le _⟩⟩
def rC (s : St) : Int := if ReadOk s 0 0 then 0 else 80
def rT (s : St) : ByteArray := if ReadOk s 0 0 then atT s 0 else ByteArray.empty
theorem cell_is {c : ChS} {cs : List St} {b : Nat} {s : St} (h : c.cs = cs) (hb : cs[b]? = some s) : cellOf c (b : Nat) = s := by
  unfold cellOf
  rw [h, Int.toNat_natCast, List.getD_eq_getElem?_getD, hb]; rfl
theorem CalmR.has {cs : List St} {m : Nat} {c : ChS} (h : CalmR cs m c) (b : Nat) (s : St) (hb : cs[b]? = some s) : chHas c (b : Nat) :=
  ⟨by omega, by rw [h.cells]; have := (List.getElem?_eq_some_iff.1 hb).1; omega⟩
theorem CalmR.read {cs : List St} {m : Nat} {c : ChS} (h : CalmR cs m c) (b : Nat) (s : St) (hb : cs[b]? = some s) :
    rdC c (b : Nat) 0 0 = rC s ∧ rdT c (b : Nat) 0 0 = rT s ∧ CalmR cs (m + 1) (rdSt c (b : Nat) 0 0) := by
  have hx := h.has b s hb
  have hc := cell_is h.cells hb
  have hw := rdSt_wf h.wf (b : Nat) 0 0
  unfold rC rT
  by_cases hr : ReadOk s 0 0
  · obtain ⟨e1, e2, e3⟩ := rd_calm c (b : Nat) 0 0 s (atT s 0) h.off h.shk hx hc hr rfl (by rw [h.fs]; rfl)
    rw [if_pos hr, if_pos hr]
    refine ⟨e1, e2, ?_⟩
    rw [e3] at hw ⊢
    exact ⟨h.off, h.shk, h.fs, h.cells, hw⟩
  · have hR : ¬ ReadsCh c (b : Nat) 0 0 := fun hh => hr (by rw [← hc]; exact hh.2.2)
    have ho : ¬ c.off = true := by rw [h.off]; simp
    have e3 : rdSt c (b : Nat) 0 0 = endCh (opsCh c) 80 := by unfold rdSt; rw [if_neg ho, if_neg hR]
    rw [if_neg hr, if_neg hr]
    refine ⟨by unfold rdC; rw [if_neg ho, if_neg hR], by unfold rdT; rw [if_neg fun hh => hR hh.1], ?_⟩
    rw [e3] at hw ⊢
    exact ⟨h.off, h.shk, h.fs, h.cells, hw⟩
theorem CalmR.says {cs : List St} {m : Nat} {c : ChS} (h : CalmR cs m c) (b : Nat) (s : St) (hb : cs[b]? = some s) :
    badCh c (b : Nat) = s.bad ∧ modeCh c (b : Nat) = s.mode ∧ slcCh c (b : Nat) = s.slc ∧ tlcCh c (b : Nat) = s.tlc := by
  have hx := h.has b s hb
  have hc := cell_is h.cells hb
  unfold badCh modeCh slcCh tlcCh
  rw [if_pos hx, if_pos hx, if_pos hx, if_pos hx, hc]
  exact ⟨rfl, rfl, rfl, rfl⟩

def f7Q (_ : Nat) : ByteArray := pgQ 7
theorem two_start : TwoOk sA 0 (pgQ 1) (pgQ 2) (pgQ 3) false :=
  ⟨rfl, rfl, by decide, by decide, rfl, rfl, by unfold takesB rawOf; rw [show (pgQ 1).size = 99 from pgQ_size 1 (by omega)]; rfl, by unfold takesB rawOf; rw [show (pgQ 2).size = 99 from pgQ_size 2 (by omega)]; rfl, by unfold takesB rawOf; rw [show (pgQ 3).size = 99 from pgQ_size 3 (by omega)]; rfl, fun h => absurd h (by decide)⟩
theorem two_mild : Mild (twoSt sA 0 (pgQ 1) (pgQ 2) (pgQ 3) false 0 0 0) := by
  refine ⟨?_, (twoSt_counts _ _ _ _ _ _ _ _ _).1, (twoSt_counts _ _ _ _ _ _ _ _ _).2⟩
  unfold twoSt
  rw [if_pos two_start]
  rfl
/-- how the law's chip begins -/
structure StartO (c1 c2 : ChS) (cs : List St) : Prop where
  a1 : doC (chA cs0 [] 0) 2 1 0 (pgQ 7) ByteArray.empty ByteArray.empty = 0 ∧ doSt (chA cs0 [] 0) 2 1 0 (pgQ 7) ByteArray.empty ByteArray.empty = c1
  a2 : doC c1 3 2 0 (pgQ 1) (pgQ 2) (pgQ 3) = 0 ∧ doSt c1 3 2 0 (pgQ 1) (pgQ 2) (pgQ 3) = c2
  w0 : WfCh 0 (chA cs0 [] 0)
  w1 : WfCh 1 c1
  calm : CalmR cs 2 c2
  g : c2.G = G0
  len : cs.length = 8
  mild : ∀ j, 0 < j → j < 8 → ∃ s, cs[j]? = some s ∧ Mild s
theorem startO : ∃ c1 c2 cs, StartO c1 c2 cs := by
  have w0 : WfCh 0 (chA cs0 [] 0) := chA_wf _ (Nat.zero_le _)
  obtain ⟨hd1, s1, hk1, hs1⟩ := chA_prog cs0 [] 0 1 f7Q 0 sA (by decide) rfl (KP.zero f7Q) (by decide) (pgQ_size 7 (by omega)) (by rfl) ByteArray.empty ByteArray.empty
  have w1 := doSt_wf w0 (by decide) 2 ((1 : Nat) : Int) ((0 : Nat) : Int) (f7Q 0) ByteArray.empty ByteArray.empty
  rw [hs1] at w1
  have hlen : (cs0.set 1 s1).length = 8 := by simp [cs0]
  have hx : chHas (chA (cs0.set 1 s1) [] 1) 2 := ⟨by decide, by show (2 : Int) < (((cs0.set 1 s1).length : Nat) : Int); rw [hlen]; decide⟩
  have hc : cellOf (chA (cs0.set 1 s1) [] 1) 2 = sA := by
    show (cs0.set 1 s1).getD 2 (newSt 0 0) = sA
    simp [cs0]
  have hC : twoC sA 0 (pgQ 1) (pgQ 2) (pgQ 3) false 0 = 0 := by unfold twoC; rw [if_pos two_start]; rfl
  obtain ⟨sF, hsF⟩ : ∃ sF, twoSt sA 0 (pgQ 1) (pgQ 2) (pgQ 3) false 0 0 0 = sF := ⟨_, rfl⟩
  have hm := two_mild
  rw [hsF] at hm
  have hh : howF (chA (cs0.set 1 s1) [] 1) 3 = f0 := rfl
  have d2 : doC (chA (cs0.set 1 s1) [] 1) 3 2 0 (pgQ 1) (pgQ 2) (pgQ 3) = 0 := by
    unfold doC
    rw [if_neg (show ¬ (chA (cs0.set 1 s1) [] 1).off = true by simp [chA]), if_pos hx, hc, hh]
    exact hC
  have e2 : doSt (chA (cs0.set 1 s1) [] 1) 3 2 0 (pgQ 1) (pgQ 2) (pgQ 3) = chA ((cs0.set 1 s1).set 2 sF) [] 2 := by
    unfold doSt
    rw [if_neg (show ¬ (chA (cs0.set 1 s1) [] 1).off = true by simp [chA]), if_pos hx, hc, hh]
    have h1 : opC sA 3 0 (pgQ 1) (pgQ 2) (pgQ 3) f0 = 0 := hC
    have h2 : opSt sA 3 0 (pgQ 1) (pgQ 2) (pgQ 3) f0 = sF := hsF
    rw [h1, h2]
    rfl
  have w2 := doSt_wf w1 (by decide) 3 2 0 (pgQ 1) (pgQ 2) (pgQ 3)
  rw [show chA (cs0.set 1 s1) [] (0 + 1) = chA (cs0.set 1 s1) [] 1 from rfl, e2] at w2
  refine ⟨chA (cs0.set 1 s1) [] 1, chA ((cs0.set 1 s1).set 2 sF) [] 2, (cs0.set 1 s1).set 2 sF, ⟨hd1, hs1⟩, ⟨d2, e2⟩, w0, w1, ⟨rfl, rfl, rfl, rfl, w2⟩, rfl, by rw [List.length_set]; exact hlen, fun j h0 h8 => ?_⟩
  rw [List.getElem?_set, List.getElem?_set]
  by_cases h2 : 2 = j
  · subst h2; exact ⟨sF, by rw [if_pos rfl, if_pos (by rw [hlen]; decide)], hm⟩
  · rw [if_neg h2]
    by_cases h1 : 1 = j
    · subst h1; exact ⟨s1, by rw [if_pos rfl, if_pos (by decide)], hk1.bad, hk1.cnt⟩
    · rw [if_neg h1]
      exact ⟨sA, by unfold cs0; rw [List.getElem?_replicate, if_pos h8], rfl, rfl, rfl⟩
theorem StartO.oth {c1 c2 : ChS} {cs : List St} (h : StartO c1 c2 cs) (l : List Fa) (hl : l.length ≤ maxLen) : OthS cs 2 (newCh c2.G c2.cs l) :=
  ⟨h.g, by show c2.cs.length = 8; rw [h.calm.cells]; exact h.len, fun j _ => by show c2.cs[j]? = _; rw [h.calm.cells],
   ⟨h.calm.wf.cells, Nat.zero_le _, Nat.zero_le _, Nat.zero_le _, h.calm.wf.many, hl⟩⟩

/-- two chips that share nothing -/
structure EC2 (w0 : World) (o : Nat) (F : Nat → Prop) (c : ChS) (d : Nat) (Fd : Nat → Prop) (x : ChS) (w : World) : Prop where
  one : EC w0 o F c w
  two : ChAt w d Fd x
  new : ∀ k, Fd k → w0.heap.size ≤ k
  apart : ∀ k, F k → ¬ Fd k
theorem EC2.after {w0 w w' : World} {o d : Nat} {F Fd : Nat → Prop} {c x : ChS} (h : EC2 w0 o F c d Fd x w) (hb : Below w.heap.size w w') : EC2 w0 o F c d Fd x w' :=
  ⟨h.one.after hb, h.two.after hb, h.new, h.apart⟩
theorem EC2.swap {w0 w : World} {o d : Nat} {F Fd : Nat → Prop} {c x : ChS} (h : EC2 w0 o F c d Fd x w) : EC2 w0 d Fd x o F c w :=
  ⟨⟨h.two, h.new, h.one.low⟩, h.one.ch, h.one.new, fun k hk hf => h.apart k hf hk⟩
theorem EC2.act {w0 w w' : World} {o d : Nat} {F Fd F' : Nat → Prop} {c x c' : ChS} (h : EC2 w0 o F c d Fd x w) (hc : ChAt w' o F' c') (hg : Grows F F' w) (ho : Only F w w') : EC2 w0 o F' c' d Fd x w' :=
  ⟨h.one.act hc hg ho, h.two.only ho fun k hk hf => h.apart k hf hk, h.new, fun k hk hd => (hg k hk).elim (fun h1 => h.apart k h1 hd) fun h1 => by have := h.two.lt k hd; omega⟩
theorem EC2.act2 {w0 w w' : World} {o d : Nat} {F Fd F' : Nat → Prop} {c x x' : ChS} (h : EC2 w0 o F c d Fd x w) (hc : ChAt w' d F' x') (hg : Grows Fd F' w) (ho : Only Fd w w') : EC2 w0 o F c d F' x' w' :=
  (h.swap.act hc hg ho).swap
theorem EC.copied {w0 w w' : World} {o d : Nat} {F Fd : Nat → Prop} {c x : ChS} (h : EC w0 o F c w) (hc : ChAt w' d Fd x) (hn : ∀ k, Fd k → w.heap.size ≤ k) (hb : Below w.heap.size w w') : EC2 w0 o F c d Fd x w' :=
  ⟨h.after hb, hc, fun k hk => Nat.le_trans h.low.size (hn k hk), fun k hk hd => by have := h.ch.lt k hk; have := hn k hd; omega⟩

end Go.Proofs.YtlijndkpgmbapaaGreatDoor

/- Layer 10, the laws: ChipOthers. -/
namespace Go.Proofs.YtlijndkpgmbapaaGreatDoor
set_option maxRecDepth 100000
open Go.RowKit Go.Shelf Go.Proofs

/-- what is left behind a program -/
def ZO (w : World) (o : Nat) (F : Nat → Prop) (c : ChS) (d : Nat) (x : ChS) (w1 : World) : Prop := ∃ Fd, EC2 w o F c d Fd x w1
theorem ZO.after {w w1 w2 : World} {o d : Nat} {F : Nat → Prop} {c x : ChS} (h : ZO w o F c d x w1) (hb : Below w1.heap.size w1 w2) : ZO w o F c d x w2 := by
  obtain ⟨Fd, h⟩ := h
  exact ⟨Fd, h.after hb⟩
/-- what each operation of the region OT leaves -/
def vsOT (d b9 : Nat) (al : Int) : List (Option (Tmp × Value)) :=
  [some (75, .pointer (some ⟨d, 0, none⟩)), some (76, .pointer (some ⟨b9, 1, none⟩)), some (77, .pointer (some ⟨b9, 2, none⟩)), some (78, .int .i64 al), some (79, .pointer (some ⟨b9, 1, none⟩)), some (80, .pointer (some ⟨b9, 2, none⟩)), some (81, .int .i64 al), some (82, .string (pgQ al)), none]
/-- the frame while the region OT runs -/
def BaseOT (d b9 : Nat) (arr0 : Array Value) (a : Act) : Prop := ∃ u : Nat → Value, a = ⟨#[arr0.getD 0 undef, arr0.getD 1 undef, arr0.getD 2 undef, arr0.getD 3 undef, arr0.getD 4 undef, arr0.getD 5 undef, arr0.getD 6 undef, .pointer (some ⟨d, 0, none⟩), arr0.getD 8 undef, .pointer (some ⟨b9, 0, none⟩), arr0.getD 10 undef, arr0.getD 11 undef, arr0.getD 12 undef, arr0.getD 13 undef, arr0.getD 14 undef, arr0.getD 15 undef, arr0.getD 16 undef, arr0.getD 17 undef, arr0.getD 18 undef, arr0.getD 19 undef, arr0.getD 20 undef, arr0.getD 21 undef, arr0.getD 22 undef, arr0.getD 23 undef, arr0.getD 24 undef, arr0.getD 25 undef, arr0.getD 26 undef, arr0.getD 27 undef, arr0.getD 28 undef, arr0.getD 29 undef, arr0.getD 30 undef, arr0.getD 31 undef, arr0.getD 32 undef, arr0.getD 33 undef, arr0.getD 34 undef, arr0.getD 35 undef, arr0.getD 36 undef, arr0.getD 37 undef, arr0.getD 38 undef, arr0.getD 39 undef, arr0.getD 40 undef, arr0.getD 41 undef, arr0.getD 42 undef, arr0.getD 43 undef, arr0.getD 44 undef, arr0.getD 45 undef, arr0.getD 46 undef, arr0.getD 47 undef, arr0.getD 48 undef, arr0.getD 49 undef, arr0.getD 50 undef, arr0.getD 51 undef, arr0.getD 52 undef, arr0.getD 53 undef, arr0.getD 54 undef, arr0.getD 55 undef, arr0.getD 56 undef, arr0.getD 57 undef, arr0.getD 58 undef, arr0.getD 59 undef, arr0.getD 60 undef, arr0.getD 61 undef, arr0.getD 62 undef, arr0.getD 63 undef, arr0.getD 64 undef, arr0.getD 65 undef, arr0.getD 66 undef, arr0.getD 67 undef, arr0.getD 68 undef, arr0.getD 69 undef, arr0.getD 70 undef, arr0.getD 71 undef, arr0.getD 72 undef, arr0.getD 73 undef, arr0.getD 74 undef, u 75, u 76, u 77, u 78, u 79, u 80, u 81, u 82, u 83, arr0.getD 84 undef, arr0.getD 85 undef, arr0.getD 86 undef, arr0.getD 87 undef, arr0.getD 88 undef, arr0.getD 89 undef, arr0.getD 90 undef, arr0.getD 91 undef, arr0.getD 92 undef, arr0.getD 93 undef, arr0.getD 94 undef, arr0.getD 95 undef, arr0.getD 96 undef, arr0.getD 97 undef, arr0.getD 98 undef, arr0.getD 99 undef, arr0.getD 100 undef, arr0.getD 101 undef, arr0.getD 102 undef, arr0.getD 103 undef, arr0.getD 104 undef, arr0.getD 105 undef, arr0.getD 106 undef, arr0.getD 107 undef, arr0.getD 108 undef, arr0.getD 109 undef, arr0.getD 110 undef, arr0.getD 111 undef, arr0.getD 112 undef, arr0.getD 113 undef, arr0.getD 114 undef, arr0.getD 115 undef, arr0.getD 116 undef, arr0.getD 117 undef, arr0.getD 118 undef, arr0.getD 119 undef, arr0.getD 120 undef, arr0.getD 121 undef, arr0.getD 122 undef, arr0.getD 123 undef, arr0.getD 124 undef, arr0.getD 125 undef, arr0.getD 126 undef, arr0.getD 127 undef, arr0.getD 128 undef, arr0.getD 129 undef, arr0.getD 130 undef, arr0.getD 131 undef, arr0.getD 132 undef, arr0.getD 133 undef, arr0.getD 134 undef, arr0.getD 135 undef, arr0.getD 136 undef, arr0.getD 137 undef, arr0.getD 138 undef, arr0.getD 139 undef, arr0.getD 140 undef, arr0.getD 141 undef, arr0.getD 142 undef, arr0.getD 143 undef, arr0.getD 144 undef, arr0.getD 145 undef, arr0.getD 146 undef, arr0.getD 147 undef, arr0.getD 148 undef, arr0.getD 149 undef, arr0.getD 150 undef, arr0.getD 151 undef, arr0.getD 152 undef, arr0.getD 153 undef, arr0.getD 154 undef, arr0.getD 155 undef, arr0.getD 156 undef, arr0.getD 157 undef], []⟩
theorem BaseOT.of {d b9 : Nat} {arr0 : Array Value} (arr : Array Value) (h : arr = #[arr0.getD 0 undef, arr0.getD 1 undef, arr0.getD 2 undef, arr0.getD 3 undef, arr0.getD 4 undef, arr0.getD 5 undef, arr0.getD 6 undef, .pointer (some ⟨d, 0, none⟩), arr0.getD 8 undef, .pointer (some ⟨b9, 0, none⟩), arr0.getD 10 undef, arr0.getD 11 undef, arr0.getD 12 undef, arr0.getD 13 undef, arr0.getD 14 undef, arr0.getD 15 undef, arr0.getD 16 undef, arr0.getD 17 undef, arr0.getD 18 undef, arr0.getD 19 undef, arr0.getD 20 undef, arr0.getD 21 undef, arr0.getD 22 undef, arr0.getD 23 undef, arr0.getD 24 undef, arr0.getD 25 undef, arr0.getD 26 undef, arr0.getD 27 undef, arr0.getD 28 undef, arr0.getD 29 undef, arr0.getD 30 undef, arr0.getD 31 undef, arr0.getD 32 undef, arr0.getD 33 undef, arr0.getD 34 undef, arr0.getD 35 undef, arr0.getD 36 undef, arr0.getD 37 undef, arr0.getD 38 undef, arr0.getD 39 undef, arr0.getD 40 undef, arr0.getD 41 undef, arr0.getD 42 undef, arr0.getD 43 undef, arr0.getD 44 undef, arr0.getD 45 undef, arr0.getD 46 undef, arr0.getD 47 undef, arr0.getD 48 undef, arr0.getD 49 undef, arr0.getD 50 undef, arr0.getD 51 undef, arr0.getD 52 undef, arr0.getD 53 undef, arr0.getD 54 undef, arr0.getD 55 undef, arr0.getD 56 undef, arr0.getD 57 undef, arr0.getD 58 undef, arr0.getD 59 undef, arr0.getD 60 undef, arr0.getD 61 undef, arr0.getD 62 undef, arr0.getD 63 undef, arr0.getD 64 undef, arr0.getD 65 undef, arr0.getD 66 undef, arr0.getD 67 undef, arr0.getD 68 undef, arr0.getD 69 undef, arr0.getD 70 undef, arr0.getD 71 undef, arr0.getD 72 undef, arr0.getD 73 undef, arr0.getD 74 undef, arr.getD 75 undef, arr.getD 76 undef, arr.getD 77 undef, arr.getD 78 undef, arr.getD 79 undef, arr.getD 80 undef, arr.getD 81 undef, arr.getD 82 undef, arr.getD 83 undef, arr0.getD 84 undef, arr0.getD 85 undef, arr0.getD 86 undef, arr0.getD 87 undef, arr0.getD 88 undef, arr0.getD 89 undef, arr0.getD 90 undef, arr0.getD 91 undef, arr0.getD 92 undef, arr0.getD 93 undef, arr0.getD 94 undef, arr0.getD 95 undef, arr0.getD 96 undef, arr0.getD 97 undef, arr0.getD 98 undef, arr0.getD 99 undef, arr0.getD 100 undef, arr0.getD 101 undef, arr0.getD 102 undef, arr0.getD 103 undef, arr0.getD 104 undef, arr0.getD 105 undef, arr0.getD 106 undef, arr0.getD 107 undef, arr0.getD 108 undef, arr0.getD 109 undef, arr0.getD 110 undef, arr0.getD 111 undef, arr0.getD 112 undef, arr0.getD 113 undef, arr0.getD 114 undef, arr0.getD 115 undef, arr0.getD 116 undef, arr0.getD 117 undef, arr0.getD 118 undef, arr0.getD 119 undef, arr0.getD 120 undef, arr0.getD 121 undef, arr0.getD 122 undef, arr0.getD 123 undef, arr0.getD 124 undef, arr0.getD 125 undef, arr0.getD 126 undef, arr0.getD 127 undef, arr0.getD 128 undef, arr0.getD 129 undef, arr0.getD 130 undef, arr0.getD 131 undef, arr0.getD 132 undef, arr0.getD 133 undef, arr0.getD 134 undef, arr0.getD 135 undef, arr0.getD 136 undef, arr0.getD 137 undef, arr0.getD 138 undef, arr0.getD 139 undef, arr0.getD 140 undef, arr0.getD 141 undef, arr0.getD 142 undef, arr0.getD 143 undef, arr0.getD 144 undef, arr0.getD 145 undef, arr0.getD 146 undef, arr0.getD 147 undef, arr0.getD 148 undef, arr0.getD 149 undef, arr0.getD 150 undef, arr0.getD 151 undef, arr0.getD 152 undef, arr0.getD 153 undef, arr0.getD 154 undef, arr0.getD 155 undef, arr0.getD 156 undef, arr0.getD 157 undef]) : BaseOT d b9 arr0 ⟨arr, []⟩ := ⟨fun i => arr.getD i undef, by rw [← h]⟩
theorem BaseOT.put75 {d b9 : Nat} {arr0 : Array Value} (a : Act) (v : Value) (h : BaseOT d b9 arr0 a) : BaseOT d b9 arr0 (a.put (some 75) v) := by
  obtain ⟨u, rfl⟩ := h
  exact ⟨fun i => if i = 75 then v else u i, by kernel_rfl⟩
theorem BaseOT.put76 {d b9 : Nat} {arr0 : Array Value} (a : Act) (v : Value) (h : BaseOT d b9 arr0 a) : BaseOT d b9 arr0 (a.put (some 76) v) := by
  obtain ⟨u, rfl⟩ := h
  exact ⟨fun i => if i = 76 then v else u i, by kernel_rfl⟩
theorem BaseOT.put77 {d b9 : Nat} {arr0 : Array Value} (a : Act) (v : Value) (h : BaseOT d b9 arr0 a) : BaseOT d b9 arr0 (a.put (some 77) v) := by
  obtain ⟨u, rfl⟩ := h
  exact ⟨fun i => if i = 77 then v else u i, by kernel_rfl⟩
theorem BaseOT.put78 {d b9 : Nat} {arr0 : Array Value} (a : Act) (v : Value) (h : BaseOT d b9 arr0 a) : BaseOT d b9 arr0 (a.put (some 78) v) := by
  obtain ⟨u, rfl⟩ := h
  exact ⟨fun i => if i = 78 then v else u i, by kernel_rfl⟩
theorem BaseOT.put79 {d b9 : Nat} {arr0 : Array Value} (a : Act) (v : Value) (h : BaseOT d b9 arr0 a) : BaseOT d b9 arr0 (a.put (some 79) v) := by
  obtain ⟨u, rfl⟩ := h
  exact ⟨fun i => if i = 79 then v else u i, by kernel_rfl⟩
theorem BaseOT.put80 {d b9 : Nat} {arr0 : Array Value} (a : Act) (v : Value) (h : BaseOT d b9 arr0 a) : BaseOT d b9 arr0 (a.put (some 80) v) := by
  obtain ⟨u, rfl⟩ := h
  exact ⟨fun i => if i = 80 then v else u i, by kernel_rfl⟩
theorem BaseOT.put81 {d b9 : Nat} {arr0 : Array Value} (a : Act) (v : Value) (h : BaseOT d b9 arr0 a) : BaseOT d b9 arr0 (a.put (some 81) v) := by
  obtain ⟨u, rfl⟩ := h
  exact ⟨fun i => if i = 81 then v else u i, by kernel_rfl⟩
theorem BaseOT.put82 {d b9 : Nat} {arr0 : Array Value} (a : Act) (v : Value) (h : BaseOT d b9 arr0 a) : BaseOT d b9 arr0 (a.put (some 82) v) := by
  obtain ⟨u, rfl⟩ := h
  exact ⟨fun i => if i = 82 then v else u i, by kernel_rfl⟩
theorem BaseOT.put83 {d b9 : Nat} {arr0 : Array Value} (a : Act) (v : Value) (h : BaseOT d b9 arr0 a) : BaseOT d b9 arr0 (a.put (some 83) v) := by
  obtain ⟨u, rfl⟩ := h
  exact ⟨fun i => if i = 83 then v else u i, by kernel_rfl⟩

set_option maxHeartbeats 8000000 in
theorem walk_ChipOthers (of : Option Addr) (capf : Nat) (fs : List Fa) (oa : Option Addr) (cap : Nat) (l : List ActQ) (hfl : fs.length ≤ maxLen) (hl : l.length ≤ maxLen) (w : World) (hT : Tabs w) (hf : FsAt w of fs) (ha : ActsQ w oa l) :
    Calls Tryz.prog 5 #[.slice of fs.length capf, .slice oa l.length cap] w fun e w' => e = .returned (.bool true) ∧ Below w.heap.size w w' := by
  have HTB : Hid (∀ w', Below w.heap.size w w' → Tabs w') := fun w' hb => hT.after hb
  have HA := Lib.hid ha
  have HF := Lib.hid hf
  obtain ⟨nl, hn⟩ : ∃ nl, l.length = nl := ⟨_, rfl⟩
  have HN := Lib.hid hn
  rw [hn] at hl ⊢
  have hn2 : (nl : Int) ≤ 9223372036854775807 := by unfold maxLen at hl; omega
  obtain ⟨nf, hnf⟩ : ∃ nf, fs.length = nf := ⟨_, rfl⟩
  have HNF := Lib.hid hnf
  have HFL := Lib.hid hfl
  rw [hnf] at hfl ⊢
  have hnf2 : (nf : Int) ≤ 9223372036854775807 := by unfold maxLen at hfl; omega
  clear hT ha hn hl hf hnf hfl
  go_enter Tryz.func5, Tryz.ntmps5
  go_wp2_with fail
  refine (ch_works _ (HTB.out _ (Below.refl _ _))).mono ?_
  rintro e w0 ⟨rfl, hb0⟩
  have HB0 := Lib.hid hb0
  clear hb0
  by_cases h50 : (50 : Int) < (nf : Int)
  · go_wp2_with fail
    go_ret
    exact ⟨rfl, HB0.out⟩
  obtain ⟨c1, c2, csB, hst⟩ := startO
  have S0 := Lib.hid hst
  have HNFS : Hid (nf ≤ 50) := by show nf ≤ 50; omega
  clear hst
  go_wp2_with fail
  refine (ch_geo0 _).mono ?_
  rintro e w1 ⟨rfl, hb1⟩
  have HB1 := Lib.hid (HB0.out.trans (hb1.mono HB0.out.size))
  clear hb1 HB0
  go_wp2_with fail
  refine (ch_new G0 none [] 0 (by decide) _ (FsAt.nil _ _)).mono ?_
  rintro e w2 ⟨hy, _, hb2⟩
  obtain ⟨o, F, rfl, hc, hF⟩ := hy G0_ok
  have E1 : Hid (EC w o F (chA cs0 [] 0) w2) := ⟨hc, fun k hk => Nat.le_trans HB1.out.size (hF k hk), HB1.out.trans (hb2.mono HB1.out.size)⟩
  obtain ⟨c0, hc0⟩ : ∃ c0, chA cs0 [] 0 = c0 := ⟨_, rfl⟩
  rw [hc0] at E1
  have HD1 : Hid (doC c0 2 1 0 (pgQ 7) ByteArray.empty ByteArray.empty = 0 ∧ doSt c0 2 1 0 (pgQ 7) ByteArray.empty ByteArray.empty = c1) := by rw [← hc0]; exact S0.out.a1
  have HW0 : Hid (WfCh 0 c0) := by rw [← hc0]; exact S0.out.w0
  clear hy hc hF hb2 HB1 hc0
  go_wp2_with fail
  refine (ch_pageOf 7 _ (HTB.out _ E1.out.low)).mono ?_
  rintro e w3 ⟨rfl, hb⟩
  have E2 := Lib.hid (E1.out.after hb)
  clear hb E1
  go_wp2_with fail
  refine (ch_program o F c0 1 0 (pgQ 7) ByteArray.empty ByteArray.empty HW0.out.cs' (HW0.out.small (by decide)) _ E2.out.ch).mono ?_
  rintro e w4 ⟨rfl, ⟨F2, hc, hg⟩, ho⟩
  rw [HD1.out.2] at hc
  rw [HD1.out.1]
  have E3 := Lib.hid (E2.out.act hc hg ho)
  clear hc hg ho E2 HD1 HW0
  go_wp2_with fail
  refine (ch_pageOf 1 _ (HTB.out _ E3.out.low)).mono ?_
  rintro e w5 ⟨rfl, hb⟩
  have E4 := Lib.hid (E3.out.after hb)
  clear hb E3
  go_wp2_with fail
  refine (ch_pageOf 2 _ (HTB.out _ E4.out.low)).mono ?_
  rintro e w6 ⟨rfl, hb⟩
  have E5 := Lib.hid (E4.out.after hb)
  clear hb E4
  go_wp2_with fail
  refine (ch_pageOf 3 _ (HTB.out _ E5.out.low)).mono ?_
  rintro e w7 ⟨rfl, hb⟩
  have E6 := Lib.hid (E5.out.after hb)
  clear hb E5
  go_wp2_with fail
  refine (ch_foggy o F2 c1 2 0 (pgQ 1) (pgQ 2) (pgQ 3) S0.out.w1.cs' (S0.out.w1.small (by decide)) _ E6.out.ch).mono ?_
  rintro e w8 ⟨rfl, ⟨F3, hc, hg⟩, ho⟩
  rw [S0.out.a2.2] at hc
  rw [S0.out.a2.1]
  have E7 := Lib.hid (E6.out.act hc hg ho)
  clear hc hg ho E6
  go_wp2_with fail
  have hcp := ch_copy o F3 c2 S0.out.calm.wf.cs' (by rw [S0.out.calm.cells, S0.out.len]; decide) of fs capf (by rw [HNF.out]; have := HNFS.out; omega) _ (HF.out.below E7.out.low) E7.out.ch
  rw [HNF.out] at hcp
  refine hcp.mono ?_
  clear hcp
  rintro e w9 ⟨d, Fd, rfl, hc, hn, hb⟩
  have E8 := Lib.hid (E7.out.copied hc hn hb)
  have O8 := Lib.hid (S0.out.oth fs HFL.out)
  obtain ⟨x0, hx0⟩ : ∃ x0, newCh c2.G c2.cs fs = x0 := ⟨_, rfl⟩
  rw [hx0] at E8 O8
  clear hc hn hb E7 hx0
  go_wp2_with fail
  go_loopw [8] (fun iv wr => ∃ (i : Nat) (Fd : Nat → Prop) (x : ChS), i ≤ nl ∧ i ≤ 40 ∧ iv = .int .i64 i ∧ Hid (EC2 w o F3 c2 d Fd x wr) ∧ Hid (OthS csB (2 + i) x)) (fun iv _ => 40 - (intOf iv).toNat)
  case atStart => exact ⟨0, Fd, x0, Nat.zero_le _, Nat.zero_le _, rfl, E8, O8⟩
  case round =>
    clear E8 O8
    obtain ⟨i, Fd, x, hi, hi40, rfl, E, O⟩ := hrel
    by_cases hlt : i < nl ∧ i < 40
    · obtain ⟨hlt, hlt2⟩ := hlt
      obtain ⟨a, rfl, hab, hcell⟩ := HA.out i (by rw [HN.out]; exact hlt)
      obtain ⟨A, hA⟩ : ∃ A, l[i]'(by rw [HN.out]; exact hlt) = A := ⟨_, rfl⟩
      rw [hA] at hcell
      have hcl : ∀ t, t < 11 → wr.cell? ((a.add (i * 11)).add t) = (actq A)[t]? := by
        intro t ht
        rw [← hcell t ht]
        have hbl : ((a.add (i * 11)).add t).block = a.block := by rw [add_block, add_block]
        simp only [World.cell?, hbl]
        rw [E.out.one.low.block a.block hab]
      obtain ⟨op, ab, al, ap, p, q, r, fx, fk, fa, fb⟩ := A
      have k0 : wr.cell? (a.add (i * 11)) = some (.int .i64 op) := hcl 0 (by omega)
      have k1 : wr.cell? ⟨(a.add (i * 11)).block, (a.add (i * 11)).off + 1, none⟩ = some (.int .i64 ab) := hcl 1 (by omega)
      have k2 : wr.cell? ⟨(a.add (i * 11)).block, (a.add (i * 11)).off + 2, none⟩ = some (.int .i64 al) := hcl 2 (by omega)
      have k3 : wr.cell? ⟨(a.add (i * 11)).block, (a.add (i * 11)).off + 3, none⟩ = some (.int .i64 ap) := hcl 3 (by omega)
      have k4 : wr.cell? ⟨(a.add (i * 11)).block, (a.add (i * 11)).off + 4, none⟩ = some (.string p) := hcl 4 (by omega)
      have k5 : wr.cell? ⟨(a.add (i * 11)).block, (a.add (i * 11)).off + 5, none⟩ = some (.string q) := hcl 5 (by omega)
      have k6 : wr.cell? ⟨(a.add (i * 11)).block, (a.add (i * 11)).off + 6, none⟩ = some (.string r) := hcl 6 (by omega)
      have k7 : wr.cell? ⟨(a.add (i * 11)).block, (a.add (i * 11)).off + 7, none⟩ = some (.int .i64 fx) := hcl 7 (by omega)
      have k8 : wr.cell? ⟨(a.add (i * 11)).block, (a.add (i * 11)).off + 8, none⟩ = some (.int .i64 fk) := hcl 8 (by omega)
      have k9 : wr.cell? ⟨(a.add (i * 11)).block, (a.add (i * 11)).off + 9, none⟩ = some (.int .i64 fa) := hcl 9 (by omega)
      have k10 : wr.cell? ⟨(a.add (i * 11)).block, (a.add (i * 11)).off + 10, none⟩ = some (.int .i64 fb) := hcl 10 (by omega)
      clear hcl hcell hA
      go_wp2_with fail
      refine (ch_below op 4 _ (by decide) (by decide)).mono ?_
      rintro e w3 ⟨rfl, rfl⟩
      obtain ⟨v, hv⟩ : ∃ v, op % 4 = v := ⟨_, rfl⟩
      rw [hv]
      have hkb := Blk.new wr (actq ⟨op, ab, al, ap, p, q, r, fx, fk, fa, fb⟩) 42
      have hba : Below wr.heap.size wr (wr.alloc (.cells (actq ⟨op, ab, al, ap, p, q, r, fx, fk, fa, fb⟩) 42)) := (Below.refl _ _).alloc (Nat.le_refl _) _
      have E4 := Lib.hid (E.out.after hba)
      have hra : (wr.alloc (.cells (actq ⟨op, ab, al, ap, p, q, r, fx, fk, fa, fb⟩) 42)).rangeAt wr.heap.size 1 [.int .i64 ab, .int .i64 al, .int .i64 ap] := blk_rng hkb 1 _ (fun j u hu => by
        have hj : j < 3 := (List.getElem?_eq_some_iff.1 hu).1
        obtain rfl | rfl | rfl : j = 0 ∨ j = 1 ∨ j = 2 := by omega
        all_goals exact hu)
      have hrp : (wr.alloc (.cells (actq ⟨op, ab, al, ap, p, q, r, fx, fk, fa, fb⟩) 42)).rangeAt wr.heap.size 4 [.string p, .string q, .string r] := blk_rng hkb 4 _ (fun j u hu => by
        have hj : j < 3 := (List.getElem?_eq_some_iff.1 hu).1
        obtain rfl | rfl | rfl : j = 0 ∨ j = 1 ∨ j = 2 := by omega
        all_goals exact hu)
      have HRA := Lib.hid hra
      have HRP := Lib.hid hrp
      have HKB := Lib.hid hkb
      clear hkb hba hra hrp E k0 k1 k2 k3 k4 k5 k6 k7 k8 k9 k10 hv
      by_cases h0 : v = 0
      · subst h0
        obtain ⟨Wr, hWr⟩ : ∃ Wr, wr.alloc (.cells #[.int .i64 op, .int .i64 ab, .int .i64 al, .int .i64 ap, .string p, .string q, .string r, .int .i64 fx, .int .i64 fk, .int .i64 fa, .int .i64 fb] 42) = Wr := ⟨_, rfl⟩
        obtain ⟨b9, hb9⟩ : ∃ b9, wr.heap.size = b9 := ⟨_, rfl⟩
        obtain ⟨x2, hx2⟩ : ∃ x2, doSt x 2 0 al (pgQ al) ByteArray.empty ByteArray.empty = x2 := ⟨_, rfl⟩
        obtain ⟨v0, hv0⟩ : ∃ v0, doC x 2 0 al (pgQ al) ByteArray.empty ByteArray.empty = v0 := ⟨_, rfl⟩
        have HO2 : Hid (OthS csB (2 + (i + 1)) x2) := by rw [← hx2]; exact O.out.act (by omega) 2 al _ _ _
        have hkc : ∀ w', Below Wr.heap.size Wr w' → w'.cell? ⟨b9, 2, none⟩ = some (.int .i64 al) := by
          rw [← hWr, ← hb9]
          exact fun w' hb => (HKB.out.after hb).cell 2
        have E5 : Hid (EC2 w o F3 c2 d Fd x Wr) := by rw [← hWr]; exact E4.out
        have hpg : ∀ w', Below Wr.heap.size Wr w' → Calls Tryz.prog 27 #[.int .i64 al] w' fun e w2 => e = .returned (.string (pgQ al)) ∧ Below w'.heap.size w' w2 :=
          fun w' hb => ch_pageOf al w' (HTB.out _ (E5.out.after hb).one.low)
        have hpr : ∀ w', Below Wr.heap.size Wr w' → Calls Tryz.prog 12 #[.pointer (some ⟨d, 0, none⟩), .int .i64 0, .int .i64 al, .string (pgQ al)] w' fun e w2 => e = .returned (.int .i64 v0) ∧ ZO w o F3 c2 d x2 w2 := by
          intro w' hb
          rw [← hv0, ← hx2]
          refine (ch_program d Fd x 0 al (pgQ al) ByteArray.empty ByteArray.empty O.out.wf.cs' (O.out.wf.small (by omega)) w' (E5.out.after hb).two).mono ?_
          rintro e w2 ⟨rfl, ⟨F', hc, hg⟩, ho⟩
          exact ⟨rfl, F', (E5.out.after hb).act2 hc hg ho⟩
        have HKC := Lib.hid hkc
        have HPG := Lib.hid hpg
        have HPR := Lib.hid hpr
        have HZB : Hid (∀ w1 w2, ZO w o F3 c2 d x2 w1 → Below w1.heap.size w1 w2 → ZO w o F3 c2 d x2 w2) := fun w1 w2 h hb => h.after hb
        rw [hWr, hb9]
        clear hkc hpg hpr hb9 hWr hx2 hv0 HRA HRP HKB E4
        go_wp2_with fail
        rename_i K0 hK0
        generalize hA : (⟨_, _⟩ : Act) = A
        have HA := Lib.hid hA
        have HBT : Hid (BaseOT d b9 A.tmps A) := by
          show BaseOT _ _ _ _
          rw [← hA]
          exact BaseOT.of _ (by kernel_rfl)
        clear hA
        refine wp_region_list6 8 (fun _ => false) (SV2 (vsOT d b9 al) (fun _ => [])) (BaseOT d b9 A.tmps) (fun w' => Below Wr.heap.size Wr w') (fun w1 w2 => ZO w o F3 c2 d x2 w1 → ZO w o F3 c2 d x2 w2) (RV (vsOT d b9 al) (fun j _ w1 => j = 8 → ZO w o F3 c2 d x2 w1)) rfl (by decide) (by kernel_rfl) (by kernel_rfl) (RV.ext2 (f := fun _ => []) (fun _ _ _ _ _ h1 _ h2 h3 => h2 (h1 h3))) ?_ ((Below.refl _ _).drew) HBT.out ?_ ?_
        · exact ⟨BaseOT.put75, BaseOT.put76, BaseOT.put77, BaseOT.put78, BaseOT.put79, BaseOT.put80, BaseOT.put81, BaseOT.put82, BaseOT.put83, trivial⟩
        · refine ⟨?_, ?_, ?_, ?_, ?_, ?_, ?_, ?_, ?_, trivial⟩
          all_goals
            intro a w' hC hB hR
            obtain ⟨u, rfl⟩ := hB
            have hC := hC rfl
            have HC := Lib.hid hC
            clear hC
            clear hK0
          · clear hR
            refine if_yes (by kernel_rfl) ?_
            unfold Oper.wp
            go_simp
            exact ⟨.pointer (some ⟨d, 0, none⟩), rfl, (by first | exact HC.out | exact fun _ => HC.out | exact fun _ _ => HC.out), (fun hz => hz), rfl⟩
          · clear hR
            refine if_yes (by kernel_rfl) ?_
            unfold Oper.wp
            go_simp
            exact ⟨.pointer (some ⟨b9, 1, none⟩), rfl, (by first | exact HC.out | exact fun _ => HC.out | exact fun _ _ => HC.out), (fun hz => hz), rfl⟩
          · have h76 : u 76 = .pointer (some ⟨b9, 1, none⟩) := hR ⟨1, .data⟩ (by simp) rfl
            clear hR
            simp only [h76]
            clear h76
            refine if_yes (by kernel_rfl) ?_
            unfold Oper.wp
            go_simp
            exact ⟨.pointer (some ⟨b9, 2, none⟩), rfl, (by first | exact HC.out | exact fun _ => HC.out | exact fun _ _ => HC.out), (fun hz => hz), rfl⟩
          · have h77 : u 77 = .pointer (some ⟨b9, 2, none⟩) := hR ⟨2, .data⟩ (by simp) rfl
            have hc : w'.cell? ⟨b9, 2, none⟩ = some (.int .i64 al) := HKC.out w' HC.out
            clear hR
            simp only [h77]
            clear h77
            refine if_yes (by kernel_rfl) ?_
            unfold Oper.wp
            go_simp
            exact ⟨.int .i64 al, rfl, (by first | exact HC.out | exact fun _ => HC.out | exact fun _ _ => HC.out), (fun hz => hz), rfl⟩
          · clear hR
            refine if_yes (by kernel_rfl) ?_
            unfold Oper.wp
            go_simp
            exact ⟨.pointer (some ⟨b9, 1, none⟩), rfl, (by first | exact HC.out | exact fun _ => HC.out | exact fun _ _ => HC.out), (fun hz => hz), rfl⟩
          · have h79 : u 79 = .pointer (some ⟨b9, 1, none⟩) := hR ⟨4, .data⟩ (by simp) rfl
            clear hR
            simp only [h79]
            clear h79
            refine if_yes (by kernel_rfl) ?_
            unfold Oper.wp
            go_simp
            exact ⟨.pointer (some ⟨b9, 2, none⟩), rfl, (by first | exact HC.out | exact fun _ => HC.out | exact fun _ _ => HC.out), (fun hz => hz), rfl⟩
          · have h80 : u 80 = .pointer (some ⟨b9, 2, none⟩) := hR ⟨5, .data⟩ (by simp) rfl
            have hc : w'.cell? ⟨b9, 2, none⟩ = some (.int .i64 al) := HKC.out w' HC.out
            clear hR
            simp only [h80]
            clear h80
            refine if_yes (by kernel_rfl) ?_
            unfold Oper.wp
            go_simp
            exact ⟨.int .i64 al, rfl, (by first | exact HC.out | exact fun _ => HC.out | exact fun _ _ => HC.out), (fun hz => hz), rfl⟩
          · have h81 : u 81 = .int .i64 al := hR ⟨6, .data⟩ (by simp) rfl
            clear hR
            simp only [h81]
            clear h81
            refine if_yes (by kernel_rfl) ?_
            unfold Oper.wp
            go_simp
            refine (HPG.out _ HC.out).mono ?_
            rintro e w2 ⟨rfl, hb2⟩
            have hcc := HC.out.trans (hb2.mono HC.out.size)
            exact ⟨.string (pgQ al), rfl, (by first | exact hcc | exact fun _ => hcc | exact fun _ _ => hcc), (fun hz => HZB.out _ _ hz hb2), rfl⟩
          · have h75 : u 75 = .pointer (some ⟨d, 0, none⟩) := hR ⟨0, .data⟩ (by simp) rfl
            have h78 : u 78 = .int .i64 al := hR ⟨3, .data⟩ (by simp) rfl
            have h82 : u 82 = .string (pgQ al) := hR ⟨7, .data⟩ (by simp) rfl
            clear hR
            simp only [h75, h78, h82]
            clear h75 h78 h82
            refine if_yes (by kernel_rfl) ?_
            unfold Oper.wp
            go_simp
            refine (HPR.out _ HC.out).mono ?_
            rintro e w2 ⟨rfl, hz⟩
            exact ⟨.int .i64 v0, rfl, (by first | trivial | exact fun h => absurd rfl h | exact fun h _ => absurd rfl h), (fun _ => hz), fun _ => hz⟩
        · intro a' w' hB hR
          have hz : ZO w o F3 c2 d x2 w' := hR 8 (by decide) rfl
          obtain ⟨u, rfl⟩ := hB
          obtain ⟨Fd2, h2⟩ := hz
          have E6 := Lib.hid h2
          clear hR h2
          rw [← HA.out]
          clear HA HBT
          go_wp2_with fail
          refine (ch_power d Fd2 x2 _ E6.out.two).mono ?_
          rintro e w5 ⟨rfl, ⟨F', hc, hg⟩, ho⟩
          have E7 := Lib.hid (E6.out.act2 hc hg ho)
          have O7 := Lib.hid HO2.out.on
          clear hc hg ho E6
          go_wp2_with fail
          go_roundw
          case rel => exact ⟨i + 1, F', _, by omega, by omega, by go_num, E7, O7⟩
          case measure => simp [intOf]; omega
      have hb0 : (v == 0) = false := by simpa using h0
      by_cases h1 : v = 1
      · subst h1
        go_wp2_with (first
          | (refine wpList_load_mid rfl 37 _ rfl wr.heap.size 1 rfl [.int .i64 ab, .int .i64 al, .int .i64 ap] _ HRA.out Tryz.underlying37 rfl size_addrC ?_)
          | (refine wpList_load_mid rfl 38 _ rfl wr.heap.size 4 rfl [.string p, .string q, .string r] _ HRP.out Tryz.underlying38 rfl size_three ?_))
        refine (ch_foggy d Fd x 0 al p q r O.out.wf.cs' (O.out.wf.small (by omega)) _ E4.out.two).mono ?_
        rintro e w5 ⟨rfl, ⟨F', hc, hg⟩, ho⟩
        have E5 := Lib.hid (E4.out.act2 hc hg ho)
        have O5 : Hid (OthS csB (2 + (i + 1)) (doSt x 3 0 al p q r)) := O.out.act (by omega) 3 al p q r
        obtain ⟨v0, hv0⟩ : ∃ v0, doC x 3 0 al p q r = v0 := ⟨_, rfl⟩
        obtain ⟨x2, hx2⟩ : ∃ x2, doSt x 3 0 al p q r = x2 := ⟨_, rfl⟩
        rw [hv0]
        rw [hx2] at E5 O5
        clear hc hg ho E4 HRA HRP HKB hv0 hx2
        go_wp2_with fail
        refine (ch_power d F' x2 _ E5.out.two).mono ?_
        rintro e w6 ⟨rfl, ⟨F6, hc, hg⟩, ho⟩
        have E6 := Lib.hid (E5.out.act2 hc hg ho)
        have O6 := Lib.hid O5.out.on
        clear hc hg ho E5
        go_wp2_with fail
        go_roundw
        case rel => exact ⟨i + 1, F6, _, by omega, by omega, by go_num, E6, O6⟩
        case measure => simp [intOf]; omega
      have hb1 : (v == 1) = false := by simpa using h1
      by_cases h2 : v = 2
      · subst h2
        go_wp2_with (first
          | (refine wpList_load_mid rfl 37 _ rfl wr.heap.size 1 rfl [.int .i64 ab, .int .i64 al, .int .i64 ap] _ HRA.out Tryz.underlying37 rfl size_addrC ?_)
          | (refine wpList_load_mid rfl 38 _ rfl wr.heap.size 4 rfl [.string p, .string q, .string r] _ HRP.out Tryz.underlying38 rfl size_three ?_))
        refine (ch_fine d Fd x 0 al p q r O.out.wf.cs' (O.out.wf.small (by omega)) _ E4.out.two).mono ?_
        rintro e w5 ⟨rfl, ⟨F', hc, hg⟩, ho⟩
        have E5 := Lib.hid (E4.out.act2 hc hg ho)
        have O5 : Hid (OthS csB (2 + (i + 1)) (doSt x 4 0 al p q r)) := O.out.act (by omega) 4 al p q r
        obtain ⟨v0, hv0⟩ : ∃ v0, doC x 4 0 al p q r = v0 := ⟨_, rfl⟩
        obtain ⟨x2, hx2⟩ : ∃ x2, doSt x 4 0 al p q r = x2 := ⟨_, rfl⟩
        rw [hv0]
        rw [hx2] at E5 O5
        clear hc hg ho E4 HRA HRP HKB hv0 hx2
        go_wp2_with fail
        refine (ch_power d F' x2 _ E5.out.two).mono ?_
        rintro e w6 ⟨rfl, ⟨F6, hc, hg⟩, ho⟩
        have E6 := Lib.hid (E5.out.act2 hc hg ho)
        have O6 := Lib.hid O5.out.on
        clear hc hg ho E5
        go_wp2_with fail
        go_roundw
        case rel => exact ⟨i + 1, F6, _, by omega, by omega, by go_num, E6, O6⟩
        case measure => simp [intOf]; omega
      have hb2 : (v == 2) = false := by simpa using h2
      ·
        go_wp2_with fail
        refine (ch_erase d Fd x 0 0 p q r O.out.wf.cs' (O.out.wf.small (by omega)) (O.out.wf.count (by omega)) _ E4.out.two).mono ?_
        rintro e w5 ⟨rfl, ⟨F', hc, hg⟩, ho⟩
        have E5 := Lib.hid (E4.out.act2 hc hg ho)
        have O5 : Hid (OthS csB (2 + (i + 1)) (doSt x 5 0 0 p q r)) := O.out.act (by omega) 5 0 p q r
        obtain ⟨v0, hv0⟩ : ∃ v0, doC x 5 0 0 p q r = v0 := ⟨_, rfl⟩
        obtain ⟨x2, hx2⟩ : ∃ x2, doSt x 5 0 0 p q r = x2 := ⟨_, rfl⟩
        rw [hv0]
        rw [hx2] at E5 O5
        clear hc hg ho E4 HRA HRP HKB hv0 hx2
        go_wp2_with fail
        refine (ch_power d F' x2 _ E5.out.two).mono ?_
        rintro e w6 ⟨rfl, ⟨F6, hc, hg⟩, ho⟩
        have E6 := Lib.hid (E5.out.act2 hc hg ho)
        have O6 := Lib.hid O5.out.on
        clear hc hg ho E5
        go_wp2_with fail
        go_roundw
        case rel => exact ⟨i + 1, F6, _, by omega, by omega, by go_num, E6, O6⟩
        case measure => simp [intOf]; omega
    · have hcc : ¬ ((i : Int) < (nl : Int)) ∨ ((i : Int) < (nl : Int) ∧ ¬ ((i : Int) < 40)) := by omega
      clear hlt
      have HCP := Lib.hid (ch_copy d Fd x O.out.wf.cs' (by rw [O.out.len]; decide) none [] 0 (by decide) wr (FsAt.nil _ _) E.out.two)
      have HCX := Lib.hid O.out.calm
      have HSM : Hid (∀ b, 0 < b → b < 8 → ∃ s, csB[b]? = some s ∧ x.cs[b]? = some s ∧ Mild s) := fun b h0 h8 => by
        obtain ⟨s, h1, h2⟩ := S0.out.mild b h0 h8
        exact ⟨s, h1, (O.out.same b h0).trans h1, h2⟩
      rcases hcc with hcc | ⟨hcc, hcc2⟩
      all_goals
        go_wp2_with fail
        refine HCP.out.mono ?_
        rintro e w5 ⟨d2, Fy, rfl, hc, hn, hb⟩
        have E5 := Lib.hid (E.out.one.copied hc hn hb)
        obtain ⟨y0, hy0⟩ : ∃ y0, newCh x.G x.cs [] = y0 := ⟨_, rfl⟩
        obtain ⟨xs, hxs⟩ : ∃ xs, x.cs = xs := ⟨_, rfl⟩
        rw [hy0] at E5 HCX
        rw [hxs] at HCX HSM
        have C5 := Lib.hid S0.out.calm
        clear hc hn hb hy0 hxs E HCP O
        go_wp2_with fail
        go_loopw [11] (fun iv wr2 => ∃ (b : Nat) (F : Nat → Prop) (c : ChS) (Fy : Nat → Prop) (y : ChS), 1 ≤ b ∧ b ≤ 8 ∧ iv = .int .i64 b ∧ Hid (EC2 w o F c d2 Fy y wr2) ∧ Hid (CalmR csB (1 + b) c) ∧ Hid (CalmR xs (1 + i + b) y)) (fun iv _ => 8 - (intOf iv).toNat)
        case atStart => exact ⟨1, F3, c2, Fy, y0, by omega, by omega, rfl, E5, C5, (by rw [show 1 + i + 1 = 2 + i by omega]; exact HCX)⟩
        case round =>
          clear E5 C5 HCX
          obtain ⟨b, F, c, Fy, y, hb1, hb8, rfl, E, C, Y⟩ := hrel
          by_cases hlt : b < 8
          · have hltz : (b : Int) < 8 := by omega
            obtain ⟨s, h1, h2, h3⟩ := HSM.out b hb1 hlt
            obtain ⟨r1, r2, r3⟩ := C.out.read b s h1
            obtain ⟨q1, q2, q3⟩ := Y.out.read b s h2
            obtain ⟨_, m1, _, _⟩ := r3.says b s h1
            obtain ⟨n1, n2, n3, n4⟩ := q3.says b s h2
            rw [h3.1] at n1
            rw [h3.2.1] at n3
            rw [h3.2.2] at n4
            obtain ⟨tt, htt⟩ : ∃ tt, rT s = tt := ⟨_, rfl⟩
            obtain ⟨kk, hkk⟩ : ∃ kk, rC s = kk := ⟨_, rfl⟩
            obtain ⟨mo, hmo⟩ : ∃ mo, s.mode = mo := ⟨_, rfl⟩
            obtain ⟨c', hc'⟩ : ∃ c', rdSt c (b : Nat) 0 0 = c' := ⟨_, rfl⟩
            obtain ⟨y', hy'⟩ : ∃ y', rdSt y (b : Nat) 0 0 = y' := ⟨_, rfl⟩
            rw [hkk] at r1 q1
            rw [htt] at r2 q2
            rw [hmo] at m1 n2
            rw [hc'] at r3 m1
            rw [hy'] at q3 n1 n2 n3 n4
            have HR := Lib.hid (⟨r1, r2, q1, q2⟩ : _ ∧ _ ∧ _ ∧ _)
            have HM : Hid (modeCh c' (b : Nat) = mo ∧ modeCh y' (b : Nat) = mo ∧ badCh y' (b : Nat) = false ∧ slcCh y' (b : Nat) = 0 ∧ tlcCh y' (b : Nat) = 0) := ⟨m1, n2, n1, n3, n4⟩
            have HCS := Lib.hid hc'
            have HYS := Lib.hid hy'
            have C' : Hid (CalmR csB (1 + (b + 1)) c') := r3
            have Y' : Hid (CalmR xs (1 + i + (b + 1)) y') := q3
            clear h1 h2 h3 r1 r2 r3 q1 q2 q3 m1 n1 n2 n3 n4 htt hkk hmo hc' hy'
            go_wp2_with fail
            refine (ch_read o F c (b : Nat) 0 0 C.out.wf.cs' (C.out.wf.small (by omega)) _ E.out.one.ch).mono ?_
            rintro e w6 ⟨rfl, ⟨F6, hc, hg⟩, ho⟩
            rw [HR.out.1, HR.out.2.1]
            rw [HCS.out] at hc
            have E6 := Lib.hid (E.out.act hc hg ho)
            clear hc hg ho E C
            go_wp2_with fail
            refine (ch_read d2 Fy y (b : Nat) 0 0 Y.out.wf.cs' (Y.out.wf.small (by omega)) _ E6.out.two).mono ?_
            rintro e w7 ⟨rfl, ⟨F7, hc, hg⟩, ho⟩
            rw [HR.out.2.2.1, HR.out.2.2.2]
            rw [HYS.out] at hc
            have E7 := Lib.hid (E6.out.act2 hc hg ho)
            clear hc hg ho E6 Y HR HCS HYS
            go_wp2_with fail
            refine (ch_wear d2 F7 y' (b : Nat) _ Y'.out.wf.cs' E7.out.two).mono ?_
            rintro e w8 ⟨rfl, hbb⟩
            rw [HM.out.2.2.2.1, HM.out.2.2.2.2]
            have E8 := Lib.hid (E7.out.after hbb)
            clear hbb E7
            go_wp2_with fail
            refine (ch_mode d2 F7 y' (b : Nat) _ Y'.out.wf.cs' E8.out.two).mono ?_
            rintro e w9 ⟨rfl, rfl⟩
            rw [HM.out.2.1]
            go_wp2_with fail
            refine (ch_mode o F6 c' (b : Nat) _ C'.out.wf.cs' E8.out.one.ch).mono ?_
            rintro e w9 ⟨rfl, rfl⟩
            rw [HM.out.1]
            go_wp2_with fail
            refine (ch_bad d2 F7 y' (b : Nat) _ Y'.out.wf.cs' E8.out.two).mono ?_
            rintro e w9 ⟨rfl, rfl⟩
            rw [HM.out.2.2.1]
            go_wp2_with fail
            go_roundw
            case rel => exact ⟨b + 1, F6, c', F7, y', by omega, by omega, by go_num, E8, C', Y'⟩
            case measure => simp [intOf]; omega
          · obtain rfl : b = 8 := by omega
            go_wp2_with fail
            go_ret
            exact ⟨rfl, E.out.one.low⟩

end Go.Proofs.YtlijndkpgmbapaaGreatDoor

/- Layer 10: the law ChipOthers' walk, as it is taken. -/
namespace Go.Proofs.YtlijndkpgmbapaaGreatDoor
open Go.RowKit

theorem walkw_ChipOthers (of : Option Addr) (capf : Nat) (fs : List Fa) (oa : Option Addr) (cap : Nat) (l : List ActQ) (hfl : fs.length ≤ maxLen) (hl : l.length ≤ maxLen) (w : World) (hT : Tabs w) (hf : FsAt w of fs) (ha : ActsQ w oa l) :
    Calls Tryz.prog 5 #[.slice of fs.length capf, .slice oa l.length cap] w fun e w' => e = .returned (.bool true) ∧ Below w.heap.size w w' := walk_ChipOthers of capf fs oa cap l hfl hl w hT hf ha

end Go.Proofs.YtlijndkpgmbapaaGreatDoor
