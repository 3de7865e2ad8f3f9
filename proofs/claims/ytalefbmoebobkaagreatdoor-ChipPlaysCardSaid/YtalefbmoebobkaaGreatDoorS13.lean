/- Texts of one claim, merged: ChLA, ArgsQ, ArgsF. -/
import Derived.Test.YtalefbmoebobkaaGreatDoorS12
import Derived.Test.YtalefbmoebobkaaGreatDoorS4
import Derived.Test.YtalefbmoebobkaaGreatDoorS11
import Derived.Deep.DeepCutAuto
import Derived.Deep.CutBlock
import Derived.Test.YtalefbmoebobkaaGreatDoorS5
import Derived.Deep.Slices
import Derived.Test.YtalefbmoebobkaaGreatDoorS6
/- Layer 10, the laws: ChipPlays. -/
namespace Go.Proofs.YtalefbmoebobkaaGreatDoor
set_option maxRecDepth 100000
open Go.RowKit Go.Shelf Go.Proofs
theorem act_rng {w : World} {g : Nat} {op ab al ap fx fk fa fb : Int} {p q r : ByteArray} (h : Blk w g (actq ⟨op, ab, al, ap, p, q, r, fx, fk, fa, fb⟩) 42) :
  w.rangeAt g 1 [.int .i64 ab, .int .i64 al, .int .i64 ap] ∧ w.rangeAt g 4 [.string p, .string q, .string r] ∧ w.rangeAt g 7 [.int .i64 fx, .int .i64 fk, .int .i64 fa, .int .i64 fb] := by
 refine ⟨blk_rng h 1 _ (fun j u hu => ?_), blk_rng h 4 _ (fun j u hu => ?_), blk_rng h 7 _ (fun j u hu => ?_)⟩
 ·have hj : j < 3 := (List.getElem?_eq_some_iff.1 hu).1
  obtain rfl | rfl | rfl : j = 0 ∨ j = 1 ∨ j = 2 := by omega
  all_goals exact hu
 ·have hj : j < 3 := (List.getElem?_eq_some_iff.1 hu).1
  obtain rfl | rfl | rfl : j = 0 ∨ j = 1 ∨ j = 2 := by omega
  all_goals exact hu
 ·have hj : j < 4 := (List.getElem?_eq_some_iff.1 hu).1
  obtain rfl | rfl | rfl | rfl : j = 0 ∨ j = 1 ∨ j = 2 ∨ j = 3 := by omega
  all_goals exact hu
def vsCP (o D : Nat) (e : Int) (t : ByteArray) (off : Bool) (ops cuts rej : Nat) : List (Option (Tmp × Value)) :=
 [some (239, .int .i64 e), some (240, .int .i64 e), some (241, .bool false), some (242, .bool false), some (243, .string t), some (244, .string t), some (245, .bool false), some (246, .bool false), some (247, .bool false), some (248, .pointer (some ⟨o, 0, none⟩)), some (249, .bool off), some (250, .pointer (some ⟨D, 11, none⟩)), some (251, .bool off), some (252, .bool false), some (253, .bool false), some (254, .bool false), some (255, .pointer (some ⟨o, 0, none⟩)), some (256, .int .i64 (ops : Int)), some (257, .pointer (some ⟨D, 8, none⟩)), some (258, .int .i64 (ops : Int)), some (259, .bool false), some (260, .bool false), some (261, .bool false), some (262, .pointer (some ⟨o, 0, none⟩)), some (263, .int .i64 (cuts : Int)), some (264, .pointer (some ⟨D, 9, none⟩)), some (265, .int .i64 (cuts : Int)), some (266, .bool false), some (267, .bool false), some (268, .bool false), some (269, .pointer (some ⟨o, 0, none⟩)), some (270, .int .i64 (rej : Int)), some (271, .pointer (some ⟨D, 10, none⟩)), some (272, .int .i64 (rej : Int)), some (273, .bool false), some (274, .bool false)]
set_option maxHeartbeats 16000000 in
theorem walk_ChipPlays (b l y n s r : Int) (of : Option Addr) (capf : Nat) (fs : List Fa) (oa : Option Addr) (cap : Nat) (la : List ActQ) (hfl : fs.length ≤ 4398046510976) (hl : la.length ≤ maxLen) (w : World) (hT : Tabs w) (hf : FsAt w of fs) (ha : ActsQ w oa la) :
  Calls Tryz.prog 3 #[.agg #[.int .i64 b, .int .i64 l, .int .i64 y, .int .i64 n, .int .i64 s, .int .i64 r], .slice of fs.length capf, .slice oa la.length cap] w fun e w' => e = .returned (.bool true) ∧ Below w.heap.size w w' := by
 have HTB : Hid (∀ w', Below w.heap.size w w' → Tabs w') := fun w' hb => hT.after hb
 have HACT := Lib.hid ha
 have HF := Lib.hid hf
 obtain ⟨nl, hn⟩ : ∃ nl, la.length = nl := ⟨_, rfl⟩
 have HN := Lib.hid hn
 rw [hn] at hl ⊢
 have hn2 : (nl : Int) ≤ 9223372036854775807 := by unfold maxLen at hl; omega
 obtain ⟨nf, hnf⟩ : ∃ nf, fs.length = nf := ⟨_, rfl⟩
 have HNF := Lib.hid hnf
 have HFL := Lib.hid hfl
 rw [hnf] at hfl ⊢
 have hnf2 : (nf : Int) ≤ 9223372036854775807 := by omega
 have hg0 : Blk (w.alloc (.cells #[.int .i64 b, .int .i64 l, .int .i64 y, .int .i64 n, .int .i64 s, .int .i64 r] 23)) w.heap.size #[.int .i64 b, .int .i64 l, .int .i64 y, .int .i64 n, .int .i64 s, .int .i64 r] 23 := Blk.new _ _ _
 have hgb : Below w.heap.size w (w.alloc (.cells #[.int .i64 b, .int .i64 l, .int .i64 y, .int .i64 n, .int .i64 s, .int .i64 r] 23)) := (Below.refl _ _).alloc (Nat.le_refl _) _
 have HG0 := Lib.hid hg0
 have HGB := Lib.hid hgb
 clear hT ha hn hl hf hnf hfl hg0 hgb
 go_enter Tryz.func3, Tryz.ntmps3
 go_wp2_with (refine wpList_load_row rfl 23 (.tmp 3) rfl w.heap.size rfl 23 #[.int .i64 b, .int .i64 l, .int .i64 y, .int .i64 n, .int .i64 s, .int .i64 r] (0, 0) _ HG0.out Tryz.underlying23 rfl size_geoC ?_)
 have hnew := ch_new ⟨b, l, y, n, s, r⟩ of fs capf HFL.out _ (HF.out.below HGB.out)
 rw [HNF.out] at hnew
 refine hnew.mono ?_
 clear hnew
 rintro e w1 ⟨hyes, hno, hb1⟩
 have HG1 := Lib.hid (HG0.out.after hb1)
 have HB1 := Lib.hid (HGB.out.trans (hb1.mono HGB.out.size))
 by_cases hok : OkG b l y n s r
 ·obtain ⟨o, F, rfl, hc, hFn⟩ := hyes hok
  obtain ⟨c0, hc0⟩ : ∃ c0, newCh ⟨b, l, y, n, s, r⟩ (List.replicate b.toNat (newSt l.toNat y.toNat)) fs = c0 := ⟨_, rfl⟩
  have HCF : Hid (c0.fs = fs) := by rw [← hc0]; exact rfl
  have HCL : Hid (c0.cs.length = b.toNat) := by rw [← hc0]; exact List.length_replicate
  have HW0 : Hid (WfCh 0 c0) := by
   obtain ⟨⟨h1, h2, h3, h4, h5, h6, h7, _⟩, _, _⟩ := hok
   have hws : WfSt (newSt l.toNat y.toNat) := newSt_ok (by omega) (by omega) (by unfold LenOk; omega)
   rw [← hc0]
   refine ⟨fun t ht => ?_, Nat.le_refl _, Nat.le_refl _, Nat.le_refl _, ?_, ?_⟩
   ·obtain ⟨_, rfl⟩ := List.mem_replicate.1 ht
    exact ⟨hws, Nat.le_refl _, Nat.le_refl _⟩
   ·show (List.replicate _ _).length ≤ 1000
    rw [List.length_replicate]; omega
   ·show fs.length ≤ maxLen
    have := HFL.out
    unfold maxLen; omega
  have hc2 : ChAt w1 o F c0 := by rw [← hc0]; exact hc
  have E1 : Hid (EC w o F c0 w1) := ⟨hc2, fun k hk => Nat.le_trans HGB.out.size (hFn k hk), HB1.out⟩
  have HOK := Lib.hid hok
  have HC0 := Lib.hid hc0
  clear hyes hno hc hFn hb1 hc0 hc2 hok
  go_wp2_with (refine wpList_load_row rfl 23 (.tmp 3) rfl w.heap.size rfl 23 #[.int .i64 b, .int .i64 l, .int .i64 y, .int .i64 n, .int .i64 s, .int .i64 r] (0, 0) _ HG1.out Tryz.underlying23 rfl size_geoC ?_)
  have hrn := rch_new b l y n s r of capf fs (by have := HFL.out; unfold maxLen; omega) w1 (HF.out.below E1.out.low)
  rw [HNF.out] at hrn
  refine hrn.mono ?_
  clear hrn
  rintro e w2 ⟨hyes, _, hb2⟩
  obtain ⟨oc, k, L, rfl, hr, hft⟩ := hyes HOK.out
  rw [HC0.out] at hr ⊢
  have hap : ∀ q, RF c0 oc of L q → ¬ F q := by
   rintro q (h1 | ⟨h1, a, ha, rfl⟩) hF
   ·have h2 := hft q h1
    have h3 := E1.out.ch.lt q hF
    omega
   ·rw [HCF.out] at h1
    obtain ⟨bb, off, h2, h3, _⟩ := HF.out h1
    rw [ha] at h2
    obtain rfl := Option.some.inj h2
    have h4 := E1.out.new _ hF
    have h5 : bb < w.heap.size := h3
    have h6 : w.heap.size ≤ bb := h4
    omega
  have hp3 : PC2 w w2.heap.size o F c0 c0 oc of k capf L ((w2.alloc (.cells #[.int .i64 0, .int .i64 0, .int .i64 0, .int .i64 0, .int .i64 0, .int .i64 0, .slice none 0 0, .slice none 0 0, .int .i64 0, .int .i64 0, .int .i64 0, .bool false, .bool false, .int .i64 0, .int .i64 0] 32)).setRow w2.heap.size (chv c0 oc k of capf)) := PC2.start (E1.out.after hb2) hr hap _
  obtain ⟨w3, hw3⟩ : ∃ w3, (w2.alloc (.cells #[.int .i64 0, .int .i64 0, .int .i64 0, .int .i64 0, .int .i64 0, .int .i64 0, .slice none 0 0, .slice none 0 0, .int .i64 0, .int .i64 0, .int .i64 0, .bool false, .bool false, .int .i64 0, .int .i64 0] 32)).setRow w2.heap.size (chv c0 oc k of capf) = w3 := ⟨_, rfl⟩
  have hg3 : Blk ((w2.alloc (.cells #[.int .i64 0, .int .i64 0, .int .i64 0, .int .i64 0, .int .i64 0, .int .i64 0, .slice none 0 0, .slice none 0 0, .int .i64 0, .int .i64 0, .int .i64 0, .bool false, .bool false, .int .i64 0, .int .i64 0] 32)).setRow w2.heap.size (chv c0 oc k of capf)) w.heap.size #[.int .i64 b, .int .i64 l, .int .i64 y, .int .i64 n, .int .i64 s, .int .i64 r] 23 := ((HG1.out.after hb2).alloc _).put_other (by have h1 := HG1.out.lt; have h2 := hb2.size; omega) _
  have d0 : ((w2.alloc (.cells #[.int .i64 0, .int .i64 0, .int .i64 0, .int .i64 0, .int .i64 0, .int .i64 0, .slice none 0 0, .slice none 0 0, .int .i64 0, .int .i64 0, .int .i64 0, .bool false, .bool false, .int .i64 0, .int .i64 0] 32)).setRow w2.heap.size (chv c0 oc k of capf)).cell? ⟨w.heap.size, 0, none⟩ = some (.int .i64 b) := hg3.cell 0
  have d1 : ((w2.alloc (.cells #[.int .i64 0, .int .i64 0, .int .i64 0, .int .i64 0, .int .i64 0, .int .i64 0, .slice none 0 0, .slice none 0 0, .int .i64 0, .int .i64 0, .int .i64 0, .bool false, .bool false, .int .i64 0, .int .i64 0] 32)).setRow w2.heap.size (chv c0 oc k of capf)).cell? ⟨w.heap.size, 1, none⟩ = some (.int .i64 l) := hg3.cell 1
  have hz2 : Blk (w2.alloc (.cells #[.int .i64 0, .int .i64 0, .int .i64 0, .int .i64 0, .int .i64 0, .int .i64 0, .slice none 0 0, .slice none 0 0, .int .i64 0, .int .i64 0, .int .i64 0, .bool false, .bool false, .int .i64 0, .int .i64 0] 32)) w2.heap.size chz 32 := Blk.new _ _ _
  have HZ2 := Lib.hid hz2
  have HW3 := Lib.hid hw3
  rw [hw3] at hp3
  have HP3 := Lib.hid hp3
  obtain ⟨D, hD⟩ : ∃ D, w2.heap.size = D := ⟨_, rfl⟩
  have HD := Lib.hid hD
  clear hyes hb2 hr hft hap hg3 hz2 hp3 hw3 hD E1 HG1 HG0 HGB HB1
  have hcase : (12 : Int) < b ∨ (¬ (12 : Int) < b ∧ (12 : Int) < l) ∨ (¬ (12 : Int) < b ∧ ¬ (12 : Int) < l ∧ (50 : Int) < (nf : Int)) ∨ (¬ (12 : Int) < b ∧ ¬ (12 : Int) < l ∧ ¬ (50 : Int) < (nf : Int)) := by omega
  rcases hcase with h12 | ⟨h12, h13⟩ | ⟨h12, h13, h14⟩ | ⟨h12, h13, h14⟩
  iterate 3
   ·go_wp2_with (refine wpList_store_row rfl 32 (.tmp 9) (.tmp 27) rfl w2.heap.size (chv c0 oc k of capf) rfl rfl 32 chz HZ2.out size_chip rfl (chv_one _ _ _ _ _) ?_)
    rw [HW3.out]
    refine (ch_works _ (HTB.out _ HP3.out.one.low)).mono ?_
    rintro e w4 ⟨rfl, hb4⟩
    have HB4 := Lib.hid (HP3.out.one.low.trans (hb4.mono HP3.out.one.low.size))
    clear hb4
    go_wp2_with fail
    go_ret
    exact ⟨rfl, HB4.out⟩
  have HL0 : Hid (c0.cs.length ≤ 12) := by show c0.cs.length ≤ 12; rw [HCL.out]; omega
  go_wp2_with (refine wpList_store_row rfl 32 (.tmp 9) (.tmp 27) rfl w2.heap.size (chv c0 oc k of capf) rfl rfl 32 chz HZ2.out size_chip rfl (chv_one _ _ _ _ _) ?_)
  rw [HW3.out]
  have HS0 : Hid (RoundS w w2.heap.size 0 (.pointer (some ⟨o, 0, none⟩)) w3) := ⟨o, F, c0, oc, of, k, capf, L, rfl, HP3.out, HW0.out, HL0.out⟩
  rw [HD.out] at HS0 ⊢
  clear d0 d1 HZ2 HW3 HP3 HW0 HL0 HD HC0 HOK HCF HCL h12 h13 h14
  go_loopw [7, 11] (fun s7 iv wr => ∃ i : Nat, i ≤ nl ∧ i ≤ 40 ∧ iv = .int .i64 i ∧ Hid (RoundS w D i s7 wr)) (fun _ iv _ => 40 - (intOf iv).toNat)
  case atStart => exact ⟨0, Nat.zero_le _, Nat.zero_le _, rfl, HS0⟩
  case round =>
   clear HS0
   obtain ⟨i, hi, hi40, rfl, HS⟩ := hrel
   obtain ⟨o, F, c, oc, of, k, m, L, rfl, hP, hW, hL⟩ := HS.out
   have P := Lib.hid hP
   have HWF := Lib.hid hW
   have HLN := Lib.hid hL
   clear hP hW hL HS
   by_cases hlt : i < nl ∧ i < 40
   ·obtain ⟨hlt, hlt2⟩ := hlt
    obtain ⟨a, rfl, hab, hcell⟩ := HACT.out i (by rw [HN.out]; exact hlt)
    obtain ⟨A, hA⟩ : ∃ A, la[i]'(by rw [HN.out]; exact hlt) = A := ⟨_, rfl⟩
    rw [hA] at hcell
    have hcl : ∀ t, t < 11 → wr.cell? ((a.add (i * 11)).add t) = (actq A)[t]? := by
     intro t ht
     rw [← hcell t ht]
     have hbl : ((a.add (i * 11)).add t).block = a.block := by rw [add_block, add_block]
     simp only [World.cell?, hbl]
     rw [P.out.one.low.block a.block hab]
    obtain ⟨op, ab, al, ap, p, q, r, fx, fk, fa, fb⟩ := A
    have k0 : wr.cell? (a.add (i * 11)) = some (.int .i64 op) := hcl 0 (by omega)
    have k1 : wr.cell? ⟨(a.add (i * 11)).block, (a.add (i * 11)).off + 1, none⟩ = some (.int .i64 ab) := hcl 1 (by omega)
    have k2 : wr.cell? ⟨(a.add (i * 11)).block, (a.add (i * 11)).off + 2, none⟩ = some (.int .i64 al) := hcl 2 (by omega)
    have k3 : wr.cell? ⟨(a.add (i * 11)).block, (a.add (i * 11)).off + 3, none⟩ = some (.int .i64 ap) := hcl 3 (by omega)
    have k4 : wr.cell? ⟨(a.add (i * 11)).block, (a.add (i * 11)).off + 4, none⟩ = some (.string p) := hcl 4 (by omega)
    have k5 : wr.cell? ⟨(a.add (i * 11)).block, (a.add (i * 11)).off + 5, none⟩ = some (.string q) := hcl 5 (by omega)
    have k6 : wr.cell? ⟨(a.add (i * 11)).block, (a.add (i * 11)).off + 6, none⟩ = some (.string r) := hcl 6 (by omega)
    have k7 : wr.cell? ⟨(a.add (i * 11)).block, (a.add (i * 11)).off + 7, none⟩ = some (.int .i64 fx) := hcl 7 (by omega)
    have k8 : wr.cell? ⟨(a.add (i * 11)).block, (a.add (i * 11)).off + 8, none⟩ = some (.int .i64 fk) := hcl 8 (by omega)
    have k9 : wr.cell? ⟨(a.add (i * 11)).block, (a.add (i * 11)).off + 9, none⟩ = some (.int .i64 fa) := hcl 9 (by omega)
    have k10 : wr.cell? ⟨(a.add (i * 11)).block, (a.add (i * 11)).off + 10, none⟩ = some (.int .i64 fb) := hcl 10 (by omega)
    clear hcl hcell hA
    have hba : Below wr.heap.size wr (wr.alloc (.cells #[.int .i64 op, .int .i64 ab, .int .i64 al, .int .i64 ap, .string p, .string q, .string r, .int .i64 fx, .int .i64 fk, .int .i64 fa, .int .i64 fb] 42)) := (Below.refl _ _).alloc (Nat.le_refl _) _
    obtain ⟨w4, hw4⟩ : ∃ w4, wr.alloc (.cells #[.int .i64 op, .int .i64 ab, .int .i64 al, .int .i64 ap, .string p, .string q, .string r, .int .i64 fx, .int .i64 fk, .int .i64 fa, .int .i64 fb] 42) = w4 := ⟨_, rfl⟩
    have hkb : Blk w4 wr.heap.size (actq ⟨op, ab, al, ap, p, q, r, fx, fk, fa, fb⟩) 42 := by rw [← hw4]; exact Blk.new _ _ _
    have hnB : ¬ F wr.heap.size := fun hf => by have := P.out.one.ch.lt _ hf; omega
    have hDB : D < wr.heap.size := P.out.blk.lt
    rw [hw4] at hba
    have P4 := Lib.hid (P.out.after hba)
    have HW4 := Lib.hid hw4
    have HKB := Lib.hid hkb
    have HNB := Lib.hid hnB
    have HDB := Lib.hid hDB
    clear hba hw4 hkb hnB hDB P
    have hcase : (700 : Int) < (p.size : Int) ∨ (¬ (700 : Int) < (p.size : Int) ∧ (700 : Int) < (q.size : Int)) ∨ (¬ (700 : Int) < (p.size : Int) ∧ ¬ (700 : Int) < (q.size : Int) ∧ (700 : Int) < (r.size : Int)) ∨ (¬ (700 : Int) < (p.size : Int) ∧ ¬ (700 : Int) < (q.size : Int) ∧ ¬ (700 : Int) < (r.size : Int)) := by omega
    rcases hcase with h7 | ⟨h7, h8⟩ | ⟨h7, h8, h9⟩ | ⟨h7, h8, h9⟩
    iterate 3
     ·go_wp2_with fail
      rw [HW4.out]
      refine (ch_works _ (HTB.out _ P4.out.one.low)).mono ?_
      rintro e w5 ⟨rfl, hb5⟩
      have HB5 := Lib.hid (P4.out.one.low.trans (hb5.mono P4.out.one.low.size))
      clear hb5
      go_wp2_with fail
      go_ret
      exact ⟨rfl, HB5.out⟩
    go_upto_block 2 with fail
    rw [HW4.out]
    clear k0 k1 k2 k3 k4 k5 k6 k7 k8 k9 k10 h7 h8 h9
    go_cut [7, 13, 14, 15, 16] (fun s7 s13 s14 s15 s16 wc => RoundR w D (i + 1) s7 s13 s14 s15 s16 wc)
    case first =>
     as_aux_lemma =>
      have HR4 := Lib.hid (act_rng HKB.out)
      have hi4 : i ≤ 100000000 := by omega
      by_cases h1 : op = 1
      ·subst h1
       have k0 : w4.cell? ⟨wr.heap.size, 0, none⟩ = some (.int .i64 1) := HKB.out.cell 0
       go_wp2_with (refine wpList_load_mid rfl 37 _ rfl wr.heap.size 1 rfl [.int .i64 ab, .int .i64 al, .int .i64 ap] _ HR4.out.1 Tryz.underlying37 rfl size_addrC ?_)
       refine (ch_read o F c ab al ap HWF.out.cs' (HWF.out.small hi4) _ P4.out.one.ch).mono ?_
       rintro e w5 ⟨rfl, ⟨F', hc, hg⟩, ho⟩
       have P5 := Lib.hid (P4.out.act1 hc hg ho)
       have HB5 := Lib.hid P5.out.blk
       have HKB5 := Lib.hid (HKB.out.only ho HNB.out)
       have HR5 := Lib.hid (act_rng HKB5.out)
       have hrr := rch_read c oc of k m L i hi4 HWF.out ab al ap w5 P5.out.ref
       have hwx := rdSt_wf HWF.out ab al ap
       have hsx := rdSt_same c ab al ap
       obtain ⟨x2, hx2⟩ : ∃ x2, rdSt c ab al ap = x2 := ⟨_, rfl⟩
       obtain ⟨tt, htt⟩ : ∃ tt, rdT c ab al ap = tt := ⟨_, rfl⟩
       obtain ⟨ec, hec⟩ : ∃ ec, rdC c ab al ap = ec := ⟨_, rfl⟩
       rw [hx2] at P5 hwx hsx
       rw [htt, hec]
       rw [hx2, htt, hec] at hrr
       have HRR := Lib.hid hrr
       have HWX := Lib.hid hwx
       have HSX := Lib.hid hsx
       clear hc hg ho hrr hwx hsx hx2 htt hec k0 P4 HKB HR4
       go_wp2_with (first | (refine wpList_load_row rfl 32 (.tmp 9) rfl D rfl 32 (chv c oc k of m) (0, 0) _ HB5.out Tryz.underlying32 rfl size_chip ?_) | (refine wpList_load_mid rfl 37 _ rfl wr.heap.size 1 rfl [.int .i64 ab, .int .i64 al, .int .i64 ap] _ HR5.out.1 Tryz.underlying37 rfl size_addrC ?_))
       refine HRR.out.mono ?_
       rintro e w6 ⟨⟨oc2, kc2, L2, rfl, hr, hft⟩, hb⟩
       have P6 := Lib.hid (P5.out.act2 (k' := kc2) (m' := m) hr hb (RF.same HSX.out.1 hft))
       have HD6 := Lib.hid (HB5.out.after hb)
       clear hr hft hb P5 HB5 HRR
       go_wp2_with (refine wpList_store_row rfl 32 (.tmp 9) (.tmp 119) rfl D (chv x2 oc2 kc2 of m) rfl rfl 32 (chv c oc k of m) HD6.out size_chip rfl (chv_one _ _ _ _ _) ?_)
       go_meet
       case rel => exact ⟨ec, tt, rfl, rfl, rfl, rfl, o, F', x2, oc2, of, kc2, m, L2, rfl, P6.out, HWX.out, by rw [HSX.out.2]; exact HLN.out⟩
      have b1 : (op == 1) = false := by simpa using h1
      by_cases h2 : op = 2
      ·subst h2
       have k0 : w4.cell? ⟨wr.heap.size, 0, none⟩ = some (.int .i64 2) := HKB.out.cell 0
       have k1 : w4.cell? ⟨wr.heap.size, 1, none⟩ = some (.int .i64 ab) := HKB.out.cell 1
       have k2 : w4.cell? ⟨wr.heap.size, 2, none⟩ = some (.int .i64 al) := HKB.out.cell 2
       have k4 : w4.cell? ⟨wr.heap.size, 4, none⟩ = some (.string p) := HKB.out.cell 4
       clear h1 
       go_wp2_with fail
       refine (ch_program o F c ab al p q r HWF.out.cs' (HWF.out.small hi4) _ P4.out.one.ch).mono ?_
       rintro e w5 ⟨rfl, ⟨F', hc, hg⟩, ho⟩
       have P5 := Lib.hid (P4.out.act1 hc hg ho)
       have HB5 := Lib.hid P5.out.blk
       have HKB5 := Lib.hid (HKB.out.only ho HNB.out)
       have HR5 := Lib.hid (act_rng HKB5.out)
       have hrr := rch_do' c oc of k m L i hi4 HWF.out 2 (Or.inl rfl) ab al p q r w5 P5.out.ref
       have hwx := doSt_wf HWF.out (by omega) 2 ab al p q r
       have hsx := doSt_same c 2 ab al p q r
       obtain ⟨x2, hx2⟩ : ∃ x2, doSt c 2 ab al p q r = x2 := ⟨_, rfl⟩
       obtain ⟨ec, hec⟩ : ∃ ec, doC c 2 ab al p q r = ec := ⟨_, rfl⟩
       rw [hx2] at P5 hwx hsx
       rw [hec]
       rw [hx2, hec] at hrr
       have HRR := Lib.hid hrr
       have HWX := Lib.hid hwx
       have HSX := Lib.hid hsx
       clear hc hg ho hrr hwx hsx hx2 hec k0 k1 k2 k4 P4 HKB HR4
       have k1 : w5.cell? ⟨wr.heap.size, 1, none⟩ = some (.int .i64 ab) := HKB5.out.cell 1
       have k2 : w5.cell? ⟨wr.heap.size, 2, none⟩ = some (.int .i64 al) := HKB5.out.cell 2
       go_wp2_with (first | (refine wpList_load_row rfl 32 (.tmp 9) rfl D rfl 32 (chv c oc k of m) (0, 0) _ HB5.out Tryz.underlying32 rfl size_chip ?_) | (refine wpList_load_mid rfl 38 _ rfl wr.heap.size 4 rfl [.string p, .string q, .string r] _ HR5.out.2.1 Tryz.underlying38 rfl size_three ?_))
       refine HRR.out.mono ?_
       rintro e w6 ⟨oc2, kc2, L2, rfl, hr, hft, hb⟩
       have P6 := Lib.hid (P5.out.act2 (k' := kc2) (m' := m) hr hb hft)
       have HD6 := Lib.hid (HB5.out.after hb)
       clear hr hft hb P5 HB5 HRR k1 k2
       go_wp2_with (refine wpList_store_row rfl 32 (.tmp 9) (.tmp 146) rfl D (chv x2 oc2 kc2 of m) rfl rfl 32 (chv c oc k of m) HD6.out size_chip rfl (chv_one _ _ _ _ _) ?_)
       go_meet
       case rel => exact ⟨ec, ByteArray.empty, rfl, rfl, rfl, rfl, o, F', x2, oc2, of, kc2, m, L2, rfl, P6.out, HWX.out, by rw [HSX.out.2]; exact HLN.out⟩
      have b2 : (op == 2) = false := by simpa using h2
      by_cases h3 : op = 3
      ·subst h3
       have k0 : w4.cell? ⟨wr.heap.size, 0, none⟩ = some (.int .i64 3) := HKB.out.cell 0
       have k1 : w4.cell? ⟨wr.heap.size, 1, none⟩ = some (.int .i64 ab) := HKB.out.cell 1
       have k2 : w4.cell? ⟨wr.heap.size, 2, none⟩ = some (.int .i64 al) := HKB.out.cell 2
       clear h1 h2 b2
       go_wp2_with (refine wpList_load_mid rfl 38 _ rfl wr.heap.size 4 rfl [.string p, .string q, .string r] _ HR4.out.2.1 Tryz.underlying38 rfl size_three ?_)
       refine (ch_foggy o F c ab al p q r HWF.out.cs' (HWF.out.small hi4) _ P4.out.one.ch).mono ?_
       rintro e w5 ⟨rfl, ⟨F', hc, hg⟩, ho⟩
       have P5 := Lib.hid (P4.out.act1 hc hg ho)
       have HB5 := Lib.hid P5.out.blk
       have HKB5 := Lib.hid (HKB.out.only ho HNB.out)
       have HR5 := Lib.hid (act_rng HKB5.out)
       have hrr := rch_do' c oc of k m L i hi4 HWF.out 3 (Or.inr (Or.inl rfl)) ab al p q r w5 P5.out.ref
       have hwx := doSt_wf HWF.out (by omega) 3 ab al p q r
       have hsx := doSt_same c 3 ab al p q r
       obtain ⟨x2, hx2⟩ : ∃ x2, doSt c 3 ab al p q r = x2 := ⟨_, rfl⟩
       obtain ⟨ec, hec⟩ : ∃ ec, doC c 3 ab al p q r = ec := ⟨_, rfl⟩
       rw [hx2] at P5 hwx hsx
       rw [hec]
       rw [hx2, hec] at hrr
       have HRR := Lib.hid hrr
       have HWX := Lib.hid hwx
       have HSX := Lib.hid hsx
       clear hc hg ho hrr hwx hsx hx2 hec k0 k1 k2 P4 HKB HR4
       have k1 : w5.cell? ⟨wr.heap.size, 1, none⟩ = some (.int .i64 ab) := HKB5.out.cell 1
       have k2 : w5.cell? ⟨wr.heap.size, 2, none⟩ = some (.int .i64 al) := HKB5.out.cell 2
       go_wp2_with (first | (refine wpList_load_row rfl 32 (.tmp 9) rfl D rfl 32 (chv c oc k of m) (0, 0) _ HB5.out Tryz.underlying32 rfl size_chip ?_) | (refine wpList_load_mid rfl 38 _ rfl wr.heap.size 4 rfl [.string p, .string q, .string r] _ HR5.out.2.1 Tryz.underlying38 rfl size_three ?_))
       refine HRR.out.mono ?_
       rintro e w6 ⟨oc2, kc2, L2, rfl, hr, hft, hb⟩
       have P6 := Lib.hid (P5.out.act2 (k' := kc2) (m' := m) hr hb hft)
       have HD6 := Lib.hid (HB5.out.after hb)
       clear hr hft hb P5 HB5 HRR k1 k2
       go_wp2_with (refine wpList_store_row rfl 32 (.tmp 9) (.tmp 171) rfl D (chv x2 oc2 kc2 of m) rfl rfl 32 (chv c oc k of m) HD6.out size_chip rfl (chv_one _ _ _ _ _) ?_)
       go_meet
       case rel => exact ⟨ec, ByteArray.empty, rfl, rfl, rfl, rfl, o, F', x2, oc2, of, kc2, m, L2, rfl, P6.out, HWX.out, by rw [HSX.out.2]; exact HLN.out⟩
      have b3 : (op == 3) = false := by simpa using h3
      by_cases h4 : op = 4
      ·subst h4
       have k0 : w4.cell? ⟨wr.heap.size, 0, none⟩ = some (.int .i64 4) := HKB.out.cell 0
       have k1 : w4.cell? ⟨wr.heap.size, 1, none⟩ = some (.int .i64 ab) := HKB.out.cell 1
       have k2 : w4.cell? ⟨wr.heap.size, 2, none⟩ = some (.int .i64 al) := HKB.out.cell 2
       clear h1 h2 b2 h3 b3
       go_wp2_with (refine wpList_load_mid rfl 38 _ rfl wr.heap.size 4 rfl [.string p, .string q, .string r] _ HR4.out.2.1 Tryz.underlying38 rfl size_three ?_)
       refine (ch_fine o F c ab al p q r HWF.out.cs' (HWF.out.small hi4) _ P4.out.one.ch).mono ?_
       rintro e w5 ⟨rfl, ⟨F', hc, hg⟩, ho⟩
       have P5 := Lib.hid (P4.out.act1 hc hg ho)
       have HB5 := Lib.hid P5.out.blk
       have HKB5 := Lib.hid (HKB.out.only ho HNB.out)
       have HR5 := Lib.hid (act_rng HKB5.out)
       have hrr := rch_do' c oc of k m L i hi4 HWF.out 4 (Or.inr (Or.inr (Or.inl rfl))) ab al p q r w5 P5.out.ref
       have hwx := doSt_wf HWF.out (by omega) 4 ab al p q r
       have hsx := doSt_same c 4 ab al p q r
       obtain ⟨x2, hx2⟩ : ∃ x2, doSt c 4 ab al p q r = x2 := ⟨_, rfl⟩
       obtain ⟨ec, hec⟩ : ∃ ec, doC c 4 ab al p q r = ec := ⟨_, rfl⟩
       rw [hx2] at P5 hwx hsx
       rw [hec]
       rw [hx2, hec] at hrr
       have HRR := Lib.hid hrr
       have HWX := Lib.hid hwx
       have HSX := Lib.hid hsx
       clear hc hg ho hrr hwx hsx hx2 hec k0 k1 k2 P4 HKB HR4
       have k1 : w5.cell? ⟨wr.heap.size, 1, none⟩ = some (.int .i64 ab) := HKB5.out.cell 1
       have k2 : w5.cell? ⟨wr.heap.size, 2, none⟩ = some (.int .i64 al) := HKB5.out.cell 2
       go_wp2_with (first | (refine wpList_load_row rfl 32 (.tmp 9) rfl D rfl 32 (chv c oc k of m) (0, 0) _ HB5.out Tryz.underlying32 rfl size_chip ?_) | (refine wpList_load_mid rfl 38 _ rfl wr.heap.size 4 rfl [.string p, .string q, .string r] _ HR5.out.2.1 Tryz.underlying38 rfl size_three ?_))
       refine HRR.out.mono ?_
       rintro e w6 ⟨oc2, kc2, L2, rfl, hr, hft, hb⟩
       have P6 := Lib.hid (P5.out.act2 (k' := kc2) (m' := m) hr hb hft)
       have HD6 := Lib.hid (HB5.out.after hb)
       clear hr hft hb P5 HB5 HRR k1 k2
       go_wp2_with (refine wpList_store_row rfl 32 (.tmp 9) (.tmp 196) rfl D (chv x2 oc2 kc2 of m) rfl rfl 32 (chv c oc k of m) HD6.out size_chip rfl (chv_one _ _ _ _ _) ?_)
       go_meet
       case rel => exact ⟨ec, ByteArray.empty, rfl, rfl, rfl, rfl, o, F', x2, oc2, of, kc2, m, L2, rfl, P6.out, HWX.out, by rw [HSX.out.2]; exact HLN.out⟩
      have b4 : (op == 4) = false := by simpa using h4
      by_cases h5 : op = 5
      ·subst h5
       have k0 : w4.cell? ⟨wr.heap.size, 0, none⟩ = some (.int .i64 5) := HKB.out.cell 0
       have k1 : w4.cell? ⟨wr.heap.size, 1, none⟩ = some (.int .i64 ab) := HKB.out.cell 1
       clear h1 h2 b2 h3 b3 h4 b4
       go_wp2_with fail
       refine (ch_erase o F c ab 0 p q r HWF.out.cs' (HWF.out.small hi4) (HWF.out.count hi4) _ P4.out.one.ch).mono ?_
       rintro e w5 ⟨rfl, ⟨F', hc, hg⟩, ho⟩
       have P5 := Lib.hid (P4.out.act1 hc hg ho)
       have HB5 := Lib.hid P5.out.blk
       have HKB5 := Lib.hid (HKB.out.only ho HNB.out)
       have HR5 := Lib.hid (act_rng HKB5.out)
       have hrr := rch_do' c oc of k m L i hi4 HWF.out 5 (Or.inr (Or.inr (Or.inr rfl))) ab 0 p q r w5 P5.out.ref
       have hwx := doSt_wf HWF.out (by omega) 5 ab 0 p q r
       have hsx := doSt_same c 5 ab 0 p q r
       obtain ⟨x2, hx2⟩ : ∃ x2, doSt c 5 ab 0 p q r = x2 := ⟨_, rfl⟩
       obtain ⟨ec, hec⟩ : ∃ ec, doC c 5 ab 0 p q r = ec := ⟨_, rfl⟩
       rw [hx2] at P5 hwx hsx
       rw [hec]
       rw [hx2, hec] at hrr
       have HRR := Lib.hid hrr
       have HWX := Lib.hid hwx
       have HSX := Lib.hid hsx
       clear hc hg ho hrr hwx hsx hx2 hec k0 k1 P4 HKB HR4
       have k1 : w5.cell? ⟨wr.heap.size, 1, none⟩ = some (.int .i64 ab) := HKB5.out.cell 1
       go_wp2_with (first | (refine wpList_load_row rfl 32 (.tmp 9) rfl D rfl 32 (chv c oc k of m) (0, 0) _ HB5.out Tryz.underlying32 rfl size_chip ?_) | (refine wpList_load_mid rfl 38 _ rfl wr.heap.size 4 rfl [.string p, .string q, .string r] _ HR5.out.2.1 Tryz.underlying38 rfl size_three ?_))
       refine HRR.out.mono ?_
       rintro e w6 ⟨oc2, kc2, L2, rfl, hr, hft, hb⟩
       have P6 := Lib.hid (P5.out.act2 (k' := kc2) (m' := m) hr hb hft)
       have HD6 := Lib.hid (HB5.out.after hb)
       clear hr hft hb P5 HB5 HRR k1
       go_wp2_with (refine wpList_store_row rfl 32 (.tmp 9) (.tmp 213) rfl D (chv x2 oc2 kc2 of m) rfl rfl 32 (chv c oc k of m) HD6.out size_chip rfl (chv_one _ _ _ _ _) ?_)
       go_meet
       case rel => exact ⟨ec, ByteArray.empty, rfl, rfl, rfl, rfl, o, F', x2, oc2, of, kc2, m, L2, rfl, P6.out, HWX.out, by rw [HSX.out.2]; exact HLN.out⟩
      have b5 : (op == 5) = false := by simpa using h5
      by_cases h6 : op = 6
      ·subst h6
       have k0 : w4.cell? ⟨wr.heap.size, 0, none⟩ = some (.int .i64 6) := HKB.out.cell 0
       clear h1 h2 b2 h3 b3 h4 b4 h5 b5
       go_wp2_with fail
       refine (ch_power o F c _ P4.out.one.ch).mono ?_
       rintro e w5 ⟨rfl, ⟨F', hc, hg⟩, ho⟩
       have P5 := Lib.hid (P4.out.act1 hc hg ho)
       have c11 : w5.cell? ⟨D, 11, none⟩ = some (.bool c.off) := P5.out.blk.cell 11
       have f11 : w5.frozen? ⟨D, 11, none⟩ = false := P5.out.blk.free 11
       have P6 := Lib.hid (P5.out.cell 11 (.bool false) (c' := onCh c) rfl rfl rfl)
       have HWX : Hid (WfCh (i + 1) (onCh c)) := onCh_wf HWF.out.next
       clear hc hg ho k0 P4 P5
       go_wp2_with fail
       go_meet
       case rel => exact ⟨0, ByteArray.empty, rfl, rfl, rfl, rfl, o, F', onCh c, oc, of, k, m, L, rfl, P6.out, HWX.out, HLN.out⟩
      have b6 : (op == 6) = false := by simpa using h6
      by_cases h7 : op = 7
      ·subst h7
       have k0 : w4.cell? ⟨wr.heap.size, 0, none⟩ = some (.int .i64 7) := HKB.out.cell 0
       have k2 : w4.cell? ⟨wr.heap.size, 2, none⟩ = some (.int .i64 al) := HKB.out.cell 2
       have k3 : w4.cell? ⟨wr.heap.size, 3, none⟩ = some (.int .i64 ap) := HKB.out.cell 3
       clear h1 h2 b2 h3 b3 h4 b4 h5 b5 h6 b6
       go_wp2_with fail
       refine (ch_shake o F c al ap _ P4.out.one.ch).mono ?_
       rintro e w5 ⟨rfl, ⟨F', hc, hg⟩, ho⟩
       have P5 := Lib.hid (P4.out.act1 hc hg ho)
       have HKB5 := Lib.hid (HKB.out.only ho HNB.out)
       have hDB : D ≠ wr.heap.size := Nat.ne_of_lt HDB.out
       have P6 := Lib.hid (P5.out.cell 12 (.bool true) (c' := { c with shk := true }) rfl rfl rfl)
       have P7 := Lib.hid (P6.out.cell 13 (.int .i64 al) (c' := { c with shk := true, a := al }) rfl rfl rfl)
       have P8 := Lib.hid (P7.out.cell 14 (.int .i64 ap) (c' := shkCh c al ap) rfl rfl rfl)
       have c12 : w5.cell? ⟨D, 12, none⟩ = some (.bool c.shk) := P5.out.blk.cell 12
       have f12 : w5.frozen? ⟨D, 12, none⟩ = false := P5.out.blk.free 12
       have c13 : (w5.setCell ⟨D, 12, none⟩ (.bool true)).cell? ⟨D, 13, none⟩ = some (.int .i64 c.a) := P6.out.blk.cell 13
       have f13 : (w5.setCell ⟨D, 12, none⟩ (.bool true)).frozen? ⟨D, 13, none⟩ = false := P6.out.blk.free 13
       have c14 : ((w5.setCell ⟨D, 12, none⟩ (.bool true)).setCell ⟨D, 13, none⟩ (.int .i64 al)).cell? ⟨D, 14, none⟩ = some (.int .i64 c.b) := P7.out.blk.cell 14
       have f14 : ((w5.setCell ⟨D, 12, none⟩ (.bool true)).setCell ⟨D, 13, none⟩ (.int .i64 al)).frozen? ⟨D, 14, none⟩ = false := P7.out.blk.free 14
       have g2 : (w5.setCell ⟨D, 12, none⟩ (.bool true)).cell? ⟨wr.heap.size, 2, none⟩ = some (.int .i64 al) := (HKB5.out.set_other hDB 12 _).cell 2
       have g3 : ((w5.setCell ⟨D, 12, none⟩ (.bool true)).setCell ⟨D, 13, none⟩ (.int .i64 al)).cell? ⟨wr.heap.size, 3, none⟩ = some (.int .i64 ap) := ((HKB5.out.set_other hDB 12 _).set_other hDB 13 _).cell 3
       have HWX : Hid (WfCh (i + 1) (shkCh c al ap)) := shkCh_wf HWF.out.next al ap
       clear hc hg ho k0 k2 k3 P4 P5 P6 P7 hDB
       go_wp2_with fail
       go_meet
       case rel => exact ⟨0, ByteArray.empty, rfl, rfl, rfl, rfl, o, F', shkCh c al ap, oc, of, k, m, L, rfl, P8.out, HWX.out, HLN.out⟩
      have b7 : (op == 7) = false := by simpa using h7
      have k0 : w4.cell? ⟨wr.heap.size, 0, none⟩ = some (.int .i64 op) := HKB.out.cell 0
      clear h1 h2 h3 h4 h5 h6 h7
      have hba : Below w4.heap.size w4 (w4.alloc (.cells (encF (fx, fk, fa, fb)).toArray 40)) := (Below.refl _ _).alloc (Nat.le_refl _) _
      have hcp := ch_copy o F c HWF.out.cs' (by have := HLN.out; omega) (some ⟨w4.heap.size, 0, none⟩) [(fx, fk, fa, fb)] 1 (by simp) _ (fs_one w4 (fx, fk, fa, fb)) (P4.out.after hba).one.ch
      have HBA := Lib.hid hba
      have HCP := Lib.hid hcp
      clear hba hcp
      go_wp2_with (refine wpList_load_mid rfl 40 _ rfl wr.heap.size 7 rfl [.int .i64 fx, .int .i64 fk, .int .i64 fa, .int .i64 fb] _ HR4.out.2.2 Tryz.underlying40 rfl size_fault ?_)
      refine HCP.out.mono ?_
      rintro e w5 ⟨o2, F2, rfl, hc, hn, hb⟩
      have P5 := Lib.hid ((P4.out.after HBA.out).copy hc hn hb)
      have HB5 := Lib.hid P5.out.blk
      have HKB5 := Lib.hid ((HKB.out.after HBA.out).after hb)
      have HR5 := Lib.hid (act_rng HKB5.out)
      have hba : Below w5.heap.size w5 (w5.alloc (.cells (encF (fx, fk, fa, fb)).toArray 40)) := (Below.refl _ _).alloc (Nat.le_refl _) _
      have hrr := rch_copy c oc of k m L (some ⟨w5.heap.size, 0, none⟩) 1 [(fx, fk, fa, fb)] _ (P5.out.ref.after hba) (fs_one w5 (fx, fk, fa, fb))
      obtain ⟨x2, hx2⟩ : ∃ x2, newCh c.G c.cs [(fx, fk, fa, fb)] = x2 := ⟨_, rfl⟩
      have HX2 := Lib.hid hx2
      have HBA5 := Lib.hid hba
      have HRR := Lib.hid hrr
      have HWX : Hid (WfCh (i + 1) x2) := by rw [← hx2]; exact newCh_wf HWF.out.next _ (by simp [maxLen])
      have HLX : Hid (x2.cs.length ≤ 12) := by rw [← hx2]; exact HLN.out
      rw [hx2] at P5
      clear hc hn hb hba hrr hx2 k0 b1 b2 b3 b4 b5 b6 b7 P4 HKB HR4 HBA HCP
      go_wp2_with (first | (refine wpList_load_row rfl 32 (.tmp 9) rfl D rfl 32 (chv c oc k of m) (0, 0) _ HB5.out Tryz.underlying32 rfl size_chip ?_) | (refine wpList_load_mid rfl 40 _ rfl wr.heap.size 7 rfl [.int .i64 fx, .int .i64 fk, .int .i64 fa, .int .i64 fb] _ HR5.out.2.2 Tryz.underlying40 rfl size_fault ?_))
      refine HRR.out.mono ?_
      rintro e w6 ⟨rfl, hr, hb⟩
      rw [HX2.out] at hr ⊢
      have hb56 : Below w5.heap.size w5 w6 := HBA5.out.trans (hb.mono HBA5.out.size)
      have P6 := Lib.hid (P5.out.act2 (k' := k) (m' := 1) hr hb56 (by
       rintro q' (h1 | ⟨_, a, ha, rfl⟩)
       ·exact Or.inl (Or.inl h1)
       ·obtain rfl := Option.some.inj ha
        exact Or.inr (Nat.le_refl _)))
      have HD6 := Lib.hid (HB5.out.after hb56)
      clear hr hb hb56 P5 HB5 HRR HX2
      go_wp2_with (refine wpList_store_row rfl 32 (.tmp 9) (.tmp 104) rfl D (chv x2 oc k (some ⟨w5.heap.size, 0, none⟩) 1) rfl rfl 32 (chv c oc k of m) HD6.out size_chip rfl (chv_one _ _ _ _ _) ?_)
      go_meet
      case rel => exact ⟨0, ByteArray.empty, rfl, rfl, rfl, rfl, o2, F2, x2, oc, _, k, 1, L, rfl, P6.out, HWX.out, HLX.out⟩
    case rest =>
     as_aux_lemma =>
      obtain ⟨e, t, rfl, rfl, rfl, rfl, hS⟩ := hcut
      obtain ⟨o, F, c, oc, of, k, m, L, rfl, hP, hW, hL⟩ := hS
      obtain ⟨off, hoff⟩ : ∃ off, c.off = off := ⟨_, rfl⟩
      obtain ⟨ops, hops⟩ : ∃ ops, c.ops = ops := ⟨_, rfl⟩
      obtain ⟨cuts, hcuts⟩ : ∃ cuts, c.cuts = cuts := ⟨_, rfl⟩
      obtain ⟨rej, hrej⟩ : ∃ rej, c.rej = rej := ⟨_, rfl⟩
      have HOF : Hid (∀ w', Below wc.heap.size wc w' → Calls Tryz.prog 18 #[.pointer (some ⟨o, 0, none⟩)] w' fun e w2 => e = .returned (.bool off) ∧ w' = w2) := fun w' hb => by rw [← hoff]; exact ch_off o F c w' (hP.after hb).one.ch
      have HOP : Hid (∀ w', Below wc.heap.size wc w' → Calls Tryz.prog 19 #[.pointer (some ⟨o, 0, none⟩)] w' fun e w2 => e = .returned (.int .i64 (ops : Int)) ∧ w' = w2) := fun w' hb => by rw [← hops]; exact ch_ops o F c w' (hP.after hb).one.ch
      have HCU : Hid (∀ w', Below wc.heap.size wc w' → Calls Tryz.prog 20 #[.pointer (some ⟨o, 0, none⟩)] w' fun e w2 => e = .returned (.int .i64 (cuts : Int)) ∧ w' = w2) := fun w' hb => by rw [← hcuts]; exact ch_cuts o F c w' (hP.after hb).one.ch
      have HRE : Hid (∀ w', Below wc.heap.size wc w' → Calls Tryz.prog 21 #[.pointer (some ⟨o, 0, none⟩)] w' fun e w2 => e = .returned (.int .i64 (rej : Int)) ∧ w' = w2) := fun w' hb => by rw [← hrej]; exact ch_rejects o F c w' (hP.after hb).one.ch
      have HK11 : Hid (∀ w', Below wc.heap.size wc w' → w'.cell? ⟨D, 11, none⟩ = some (.bool off)) := fun w' hb => by rw [← hoff]; exact (hP.blk.after hb).cell 11
      have HK8 : Hid (∀ w', Below wc.heap.size wc w' → w'.cell? ⟨D, 8, none⟩ = some (.int .i64 (ops : Int))) := fun w' hb => by rw [← hops]; exact (hP.blk.after hb).cell 8
      have HK9 : Hid (∀ w', Below wc.heap.size wc w' → w'.cell? ⟨D, 9, none⟩ = some (.int .i64 (cuts : Int))) := fun w' hb => by rw [← hcuts]; exact (hP.blk.after hb).cell 9
      have HK10 : Hid (∀ w', Below wc.heap.size wc w' → w'.cell? ⟨D, 10, none⟩ = some (.int .i64 (rej : Int))) := fun w' hb => by rw [← hrej]; exact (hP.blk.after hb).cell 10
      have HS2 : Hid (∀ w', Below wc.heap.size wc w' → RoundS w D (i + 1) (.pointer (some ⟨o, 0, none⟩)) w') := fun w' hb => ⟨o, F, c, oc, of, k, m, L, rfl, hP.after hb, hW, hL⟩
      clear hP hW hL hoff hops hcuts hrej P4 HWF HLN HKB HNB HDB HW4
      go_wp2_with fail
      rename_i K0 hK0
      generalize hA : (⟨_, _⟩ : Act) = A
      have HA := Lib.hid hA
      have HSZ : Hid (A.tmps.size = 281) := by rw [← hA]; rfl
      have HX7 : Hid (A.tmps.getD 7 undef = .pointer (some ⟨o, 0, none⟩)) := by rw [← hA]; rfl
      have HX9 : Hid (A.tmps.getD 9 undef = .pointer (some ⟨D, 0, none⟩)) := by rw [← hA]; rfl
      have HX13 : Hid (A.tmps.getD 13 undef = .int .i64 e) := by rw [← hA]; rfl
      have HX14 : Hid (A.tmps.getD 14 undef = .int .i64 e) := by rw [← hA]; rfl
      have HX15 : Hid (A.tmps.getD 15 undef = .string t) := by rw [← hA]; rfl
      have HX16 : Hid (A.tmps.getD 16 undef = .string t) := by rw [← hA]; rfl
      clear hA
      refine wp_region_list3 (SV (vsCP o D e t off ops cuts rej) []) (Near A 239 274) (fun w' => Below wc.heap.size wc w') (fun w1 w2 => Below w1.heap.size w1 w2) (RV (vsCP o D e t off ops cuts rej) (fun _ _ _ => False)) rfl (by kernel_rfl) (RV.ext no_specialF) ?_ ((Below.refl _ _).drew) (Near.refl A _ _) ?_ ?_
      ·exact ⟨fun _ _ h => h.put (by decide) (by decide), fun _ _ h => h.put (by decide) (by decide), fun _ _ h => h.put (by decide) (by decide), fun _ _ h => h.put (by decide) (by decide), fun _ _ h => h.put (by decide) (by decide), fun _ _ h => h.put (by decide) (by decide), fun _ _ h => h.put (by decide) (by decide), fun _ _ h => h.put (by decide) (by decide), fun _ _ h => h.put (by decide) (by decide), fun _ _ h => h.put (by decide) (by decide), fun _ _ h => h.put (by decide) (by decide), fun _ _ h => h.put (by decide) (by decide), fun _ _ h => h.put (by decide) (by decide), fun _ _ h => h.put (by decide) (by decide), fun _ _ h => h.put (by decide) (by decide), fun _ _ h => h.put (by decide) (by decide), fun _ _ h => h.put (by decide) (by decide), fun _ _ h => h.put (by decide) (by decide), fun _ _ h => h.put (by decide) (by decide), fun _ _ h => h.put (by decide) (by decide), fun _ _ h => h.put (by decide) (by decide), fun _ _ h => h.put (by decide) (by decide), fun _ _ h => h.put (by decide) (by decide), fun _ _ h => h.put (by decide) (by decide), fun _ _ h => h.put (by decide) (by decide), fun _ _ h => h.put (by decide) (by decide), fun _ _ h => h.put (by decide) (by decide), fun _ _ h => h.put (by decide) (by decide), fun _ _ h => h.put (by decide) (by decide), fun _ _ h => h.put (by decide) (by decide), fun _ _ h => h.put (by decide) (by decide), fun _ _ h => h.put (by decide) (by decide), fun _ _ h => h.put (by decide) (by decide), fun _ _ h => h.put (by decide) (by decide), fun _ _ h => h.put (by decide) (by decide), fun _ _ h => h.put (by decide) (by decide), trivial⟩
      ·refine ⟨?_, ?_, ?_, ?_, ?_, ?_, ?_, ?_, ?_, ?_, ?_, ?_, ?_, ?_, ?_, ?_, ?_, ?_, ?_, ?_, ?_, ?_, ?_, ?_, ?_, ?_, ?_, ?_, ?_, ?_, ?_, ?_, ?_, ?_, ?_, ?_, trivial⟩
       all_goals
        intro a w' hC hB hR
        have HC := Lib.hid hC
        clear hC; clear hK0
       ·have e13 : a.tmps.getD 13 undef = .int .i64 e := (hB.slot 13 (by decide)).trans HX13.out
        clear hR
        refine if_yes rfl ?_
        unfold Oper.wp; go_simp
        exact ⟨.int .i64 e, rfl, HC.out, Below.refl _ _, put_at (by rw [hB.size, HSZ.out]; decide)⟩
       ·have e14 : a.tmps.getD 14 undef = .int .i64 e := (hB.slot 14 (by decide)).trans HX14.out
        clear hR
        refine if_yes rfl ?_
        unfold Oper.wp; go_simp
        exact ⟨.int .i64 e, rfl, HC.out, Below.refl _ _, put_at (by rw [hB.size, HSZ.out]; decide)⟩
       ·have h239 : a.tmps.getD 239 undef = .int .i64 e := hR ⟨0, .data⟩ (by simp) rfl
        have h240 : a.tmps.getD 240 undef = .int .i64 e := hR ⟨1, .data⟩ (by simp) rfl
        clear hR
        refine if_yes rfl ?_
        unfold Oper.wp; go_simp
        exact ⟨.bool false, rfl, HC.out, Below.refl _ _, put_at (by rw [hB.size, HSZ.out]; decide)⟩
       ·have h241 : a.tmps.getD 241 undef = .bool false := hR ⟨2, .data⟩ (by simp) rfl
        clear hR
        refine if_yes rfl ?_
        unfold Oper.wp; go_simp
        exact ⟨.bool false, rfl, HC.out, Below.refl _ _, put_at (by rw [hB.size, HSZ.out]; decide)⟩
       ·have g242 : a.tmps.getD 242 undef = .bool false := hR ⟨3, .guard⟩ (by simp) rfl
        have e15 : a.tmps.getD 15 undef = .string t := (hB.slot 15 (by decide)).trans HX15.out
        clear hR
        refine if_yes (wanted_at rfl (by kernel_rfl) (by rw [hB.size, HSZ.out]; decide) g242 rfl) ?_
        unfold Oper.wp; go_simp
        exact ⟨.string t, rfl, HC.out, Below.refl _ _, put_at (by rw [hB.size, HSZ.out]; decide)⟩
       ·have g242 : a.tmps.getD 242 undef = .bool false := hR ⟨3, .guard⟩ (by simp) rfl
        have e16 : a.tmps.getD 16 undef = .string t := (hB.slot 16 (by decide)).trans HX16.out
        clear hR
        refine if_yes (wanted_at rfl (by kernel_rfl) (by rw [hB.size, HSZ.out]; decide) g242 rfl) ?_
        unfold Oper.wp; go_simp
        exact ⟨.string t, rfl, HC.out, Below.refl _ _, put_at (by rw [hB.size, HSZ.out]; decide)⟩
       ·have g242 : a.tmps.getD 242 undef = .bool false := hR ⟨3, .guard⟩ (by simp) rfl
        have h243 : a.tmps.getD 243 undef = .string t := hR ⟨4, .data⟩ (by simp) rfl
        have h244 : a.tmps.getD 244 undef = .string t := hR ⟨5, .data⟩ (by simp) rfl
        clear hR
        refine if_yes (wanted_at rfl (by kernel_rfl) (by rw [hB.size, HSZ.out]; decide) g242 rfl) ?_
        unfold Oper.wp; go_simp
        exact ⟨.bool false, rfl, HC.out, Below.refl _ _, put_at (by rw [hB.size, HSZ.out]; decide)⟩
       ·have h242 : a.tmps.getD 242 undef = .bool false := hR ⟨3, .data⟩ (by simp) rfl
        have h245 : a.tmps.getD 245 undef = .bool false := hR ⟨6, .data⟩ (by simp) rfl
        clear hR
        refine if_yes rfl ?_
        unfold Oper.wp; go_simp
        exact ⟨.bool false, rfl, HC.out, Below.refl _ _, put_at (by rw [hB.size, HSZ.out]; decide)⟩
       ·have h246 : a.tmps.getD 246 undef = .bool false := hR ⟨7, .data⟩ (by simp) rfl
        clear hR
        refine if_yes rfl ?_
        unfold Oper.wp; go_simp
        exact ⟨.bool false, rfl, HC.out, Below.refl _ _, put_at (by rw [hB.size, HSZ.out]; decide)⟩
       ·have g247 : a.tmps.getD 247 undef = .bool false := hR ⟨8, .guard⟩ (by simp) rfl
        have e7 : a.tmps.getD 7 undef = .pointer (some ⟨o, 0, none⟩) := (hB.slot 7 (by decide)).trans HX7.out
        clear hR
        refine if_yes (wanted_at rfl (by kernel_rfl) (by rw [hB.size, HSZ.out]; decide) g247 rfl) ?_
        unfold Oper.wp; go_simp
        exact ⟨.pointer (some ⟨o, 0, none⟩), rfl, HC.out, Below.refl _ _, put_at (by rw [hB.size, HSZ.out]; decide)⟩
       ·have g247 : a.tmps.getD 247 undef = .bool false := hR ⟨8, .guard⟩ (by simp) rfl
        have h248 : a.tmps.getD 248 undef = .pointer (some ⟨o, 0, none⟩) := hR ⟨9, .data⟩ (by simp) rfl
        clear hR
        refine if_yes (wanted_at rfl (by kernel_rfl) (by rw [hB.size, HSZ.out]; decide) g247 rfl) ?_
        unfold Oper.wp; go_simp
        refine (HOF.out _ HC.out).mono ?_
        rintro e w2' ⟨rfl, rfl⟩
        exact ⟨.bool off, rfl, HC.out, Below.refl _ _, put_at (by rw [hB.size, HSZ.out]; decide)⟩
       ·have g247 : a.tmps.getD 247 undef = .bool false := hR ⟨8, .guard⟩ (by simp) rfl
        have e9 : a.tmps.getD 9 undef = .pointer (some ⟨D, 0, none⟩) := (hB.slot 9 (by decide)).trans HX9.out
        clear hR
        refine if_yes (wanted_at rfl (by kernel_rfl) (by rw [hB.size, HSZ.out]; decide) g247 rfl) ?_
        unfold Oper.wp; go_simp
        exact ⟨.pointer (some ⟨D, 11, none⟩), rfl, HC.out, Below.refl _ _, put_at (by rw [hB.size, HSZ.out]; decide)⟩
       ·have g247 : a.tmps.getD 247 undef = .bool false := hR ⟨8, .guard⟩ (by simp) rfl
        have h250 : a.tmps.getD 250 undef = .pointer (some ⟨D, 11, none⟩) := hR ⟨11, .data⟩ (by simp) rfl
        have hc : w'.cell? ⟨D, 11, none⟩ = some (.bool off) := HK11.out w' HC.out
        clear hR
        refine if_yes (wanted_at rfl (by kernel_rfl) (by rw [hB.size, HSZ.out]; decide) g247 rfl) ?_
        unfold Oper.wp; go_simp
        exact ⟨.bool off, rfl, HC.out, Below.refl _ _, put_at (by rw [hB.size, HSZ.out]; decide)⟩
       ·have g247 : a.tmps.getD 247 undef = .bool false := hR ⟨8, .guard⟩ (by simp) rfl
        have h249 : a.tmps.getD 249 undef = .bool off := hR ⟨10, .data⟩ (by simp) rfl
        have h251 : a.tmps.getD 251 undef = .bool off := hR ⟨12, .data⟩ (by simp) rfl
        clear hR
        refine if_yes (wanted_at rfl (by kernel_rfl) (by rw [hB.size, HSZ.out]; decide) g247 rfl) ?_
        unfold Oper.wp; go_simp
        exact ⟨.bool false, rfl, HC.out, Below.refl _ _, put_at (by rw [hB.size, HSZ.out]; decide)⟩
       ·have h247 : a.tmps.getD 247 undef = .bool false := hR ⟨8, .data⟩ (by simp) rfl
        have h252 : a.tmps.getD 252 undef = .bool false := hR ⟨13, .data⟩ (by simp) rfl
        clear hR
        refine if_yes rfl ?_
        unfold Oper.wp; go_simp
        exact ⟨.bool false, rfl, HC.out, Below.refl _ _, put_at (by rw [hB.size, HSZ.out]; decide)⟩
       ·have h253 : a.tmps.getD 253 undef = .bool false := hR ⟨14, .data⟩ (by simp) rfl
        clear hR
        refine if_yes rfl ?_
        unfold Oper.wp; go_simp
        exact ⟨.bool false, rfl, HC.out, Below.refl _ _, put_at (by rw [hB.size, HSZ.out]; decide)⟩
       ·have g254 : a.tmps.getD 254 undef = .bool false := hR ⟨15, .guard⟩ (by simp) rfl
        have e7 : a.tmps.getD 7 undef = .pointer (some ⟨o, 0, none⟩) := (hB.slot 7 (by decide)).trans HX7.out
        clear hR
        refine if_yes (wanted_at rfl (by kernel_rfl) (by rw [hB.size, HSZ.out]; decide) g254 rfl) ?_
        unfold Oper.wp; go_simp
        exact ⟨.pointer (some ⟨o, 0, none⟩), rfl, HC.out, Below.refl _ _, put_at (by rw [hB.size, HSZ.out]; decide)⟩
       ·have g254 : a.tmps.getD 254 undef = .bool false := hR ⟨15, .guard⟩ (by simp) rfl
        have h255 : a.tmps.getD 255 undef = .pointer (some ⟨o, 0, none⟩) := hR ⟨16, .data⟩ (by simp) rfl
        clear hR
        refine if_yes (wanted_at rfl (by kernel_rfl) (by rw [hB.size, HSZ.out]; decide) g254 rfl) ?_
        unfold Oper.wp; go_simp
        refine (HOP.out _ HC.out).mono ?_
        rintro e w2' ⟨rfl, rfl⟩
        exact ⟨.int .i64 (ops : Int), rfl, HC.out, Below.refl _ _, put_at (by rw [hB.size, HSZ.out]; decide)⟩
       ·have g254 : a.tmps.getD 254 undef = .bool false := hR ⟨15, .guard⟩ (by simp) rfl
        have e9 : a.tmps.getD 9 undef = .pointer (some ⟨D, 0, none⟩) := (hB.slot 9 (by decide)).trans HX9.out
        clear hR
        refine if_yes (wanted_at rfl (by kernel_rfl) (by rw [hB.size, HSZ.out]; decide) g254 rfl) ?_
        unfold Oper.wp; go_simp
        exact ⟨.pointer (some ⟨D, 8, none⟩), rfl, HC.out, Below.refl _ _, put_at (by rw [hB.size, HSZ.out]; decide)⟩
       ·have g254 : a.tmps.getD 254 undef = .bool false := hR ⟨15, .guard⟩ (by simp) rfl
        have h257 : a.tmps.getD 257 undef = .pointer (some ⟨D, 8, none⟩) := hR ⟨18, .data⟩ (by simp) rfl
        have hc : w'.cell? ⟨D, 8, none⟩ = some (.int .i64 (ops : Int)) := HK8.out w' HC.out
        clear hR
        refine if_yes (wanted_at rfl (by kernel_rfl) (by rw [hB.size, HSZ.out]; decide) g254 rfl) ?_
        unfold Oper.wp; go_simp
        exact ⟨.int .i64 (ops : Int), rfl, HC.out, Below.refl _ _, put_at (by rw [hB.size, HSZ.out]; decide)⟩
       ·have g254 : a.tmps.getD 254 undef = .bool false := hR ⟨15, .guard⟩ (by simp) rfl
        have h256 : a.tmps.getD 256 undef = .int .i64 (ops : Int) := hR ⟨17, .data⟩ (by simp) rfl
        have h258 : a.tmps.getD 258 undef = .int .i64 (ops : Int) := hR ⟨19, .data⟩ (by simp) rfl
        clear hR
        refine if_yes (wanted_at rfl (by kernel_rfl) (by rw [hB.size, HSZ.out]; decide) g254 rfl) ?_
        unfold Oper.wp; go_simp
        exact ⟨.bool false, rfl, HC.out, Below.refl _ _, put_at (by rw [hB.size, HSZ.out]; decide)⟩
       ·have h254 : a.tmps.getD 254 undef = .bool false := hR ⟨15, .data⟩ (by simp) rfl
        have h259 : a.tmps.getD 259 undef = .bool false := hR ⟨20, .data⟩ (by simp) rfl
        clear hR
        refine if_yes rfl ?_
        unfold Oper.wp; go_simp
        exact ⟨.bool false, rfl, HC.out, Below.refl _ _, put_at (by rw [hB.size, HSZ.out]; decide)⟩
       ·have h260 : a.tmps.getD 260 undef = .bool false := hR ⟨21, .data⟩ (by simp) rfl
        clear hR
        refine if_yes rfl ?_
        unfold Oper.wp; go_simp
        exact ⟨.bool false, rfl, HC.out, Below.refl _ _, put_at (by rw [hB.size, HSZ.out]; decide)⟩
       ·have g261 : a.tmps.getD 261 undef = .bool false := hR ⟨22, .guard⟩ (by simp) rfl
        have e7 : a.tmps.getD 7 undef = .pointer (some ⟨o, 0, none⟩) := (hB.slot 7 (by decide)).trans HX7.out
        clear hR
        refine if_yes (wanted_at rfl (by kernel_rfl) (by rw [hB.size, HSZ.out]; decide) g261 rfl) ?_
        unfold Oper.wp; go_simp
        exact ⟨.pointer (some ⟨o, 0, none⟩), rfl, HC.out, Below.refl _ _, put_at (by rw [hB.size, HSZ.out]; decide)⟩
       ·have g261 : a.tmps.getD 261 undef = .bool false := hR ⟨22, .guard⟩ (by simp) rfl
        have h262 : a.tmps.getD 262 undef = .pointer (some ⟨o, 0, none⟩) := hR ⟨23, .data⟩ (by simp) rfl
        clear hR
        refine if_yes (wanted_at rfl (by kernel_rfl) (by rw [hB.size, HSZ.out]; decide) g261 rfl) ?_
        unfold Oper.wp; go_simp
        refine (HCU.out _ HC.out).mono ?_
        rintro e w2' ⟨rfl, rfl⟩
        exact ⟨.int .i64 (cuts : Int), rfl, HC.out, Below.refl _ _, put_at (by rw [hB.size, HSZ.out]; decide)⟩
       ·have g261 : a.tmps.getD 261 undef = .bool false := hR ⟨22, .guard⟩ (by simp) rfl
        have e9 : a.tmps.getD 9 undef = .pointer (some ⟨D, 0, none⟩) := (hB.slot 9 (by decide)).trans HX9.out
        clear hR
        refine if_yes (wanted_at rfl (by kernel_rfl) (by rw [hB.size, HSZ.out]; decide) g261 rfl) ?_
        unfold Oper.wp; go_simp
        exact ⟨.pointer (some ⟨D, 9, none⟩), rfl, HC.out, Below.refl _ _, put_at (by rw [hB.size, HSZ.out]; decide)⟩
       ·have g261 : a.tmps.getD 261 undef = .bool false := hR ⟨22, .guard⟩ (by simp) rfl
        have h264 : a.tmps.getD 264 undef = .pointer (some ⟨D, 9, none⟩) := hR ⟨25, .data⟩ (by simp) rfl
        have hc : w'.cell? ⟨D, 9, none⟩ = some (.int .i64 (cuts : Int)) := HK9.out w' HC.out
        clear hR
        refine if_yes (wanted_at rfl (by kernel_rfl) (by rw [hB.size, HSZ.out]; decide) g261 rfl) ?_
        unfold Oper.wp; go_simp
        exact ⟨.int .i64 (cuts : Int), rfl, HC.out, Below.refl _ _, put_at (by rw [hB.size, HSZ.out]; decide)⟩
       ·have g261 : a.tmps.getD 261 undef = .bool false := hR ⟨22, .guard⟩ (by simp) rfl
        have h263 : a.tmps.getD 263 undef = .int .i64 (cuts : Int) := hR ⟨24, .data⟩ (by simp) rfl
        have h265 : a.tmps.getD 265 undef = .int .i64 (cuts : Int) := hR ⟨26, .data⟩ (by simp) rfl
        clear hR
        refine if_yes (wanted_at rfl (by kernel_rfl) (by rw [hB.size, HSZ.out]; decide) g261 rfl) ?_
        unfold Oper.wp; go_simp
        exact ⟨.bool false, rfl, HC.out, Below.refl _ _, put_at (by rw [hB.size, HSZ.out]; decide)⟩
       ·have h261 : a.tmps.getD 261 undef = .bool false := hR ⟨22, .data⟩ (by simp) rfl
        have h266 : a.tmps.getD 266 undef = .bool false := hR ⟨27, .data⟩ (by simp) rfl
        clear hR
        refine if_yes rfl ?_
        unfold Oper.wp; go_simp
        exact ⟨.bool false, rfl, HC.out, Below.refl _ _, put_at (by rw [hB.size, HSZ.out]; decide)⟩
       ·have h267 : a.tmps.getD 267 undef = .bool false := hR ⟨28, .data⟩ (by simp) rfl
        clear hR
        refine if_yes rfl ?_
        unfold Oper.wp; go_simp
        exact ⟨.bool false, rfl, HC.out, Below.refl _ _, put_at (by rw [hB.size, HSZ.out]; decide)⟩
       ·have g268 : a.tmps.getD 268 undef = .bool false := hR ⟨29, .guard⟩ (by simp) rfl
        have e7 : a.tmps.getD 7 undef = .pointer (some ⟨o, 0, none⟩) := (hB.slot 7 (by decide)).trans HX7.out
        clear hR
        refine if_yes (wanted_at rfl (by kernel_rfl) (by rw [hB.size, HSZ.out]; decide) g268 rfl) ?_
        unfold Oper.wp; go_simp
        exact ⟨.pointer (some ⟨o, 0, none⟩), rfl, HC.out, Below.refl _ _, put_at (by rw [hB.size, HSZ.out]; decide)⟩
       ·have g268 : a.tmps.getD 268 undef = .bool false := hR ⟨29, .guard⟩ (by simp) rfl
        have h269 : a.tmps.getD 269 undef = .pointer (some ⟨o, 0, none⟩) := hR ⟨30, .data⟩ (by simp) rfl
        clear hR
        refine if_yes (wanted_at rfl (by kernel_rfl) (by rw [hB.size, HSZ.out]; decide) g268 rfl) ?_
        unfold Oper.wp; go_simp
        refine (HRE.out _ HC.out).mono ?_
        rintro e w2' ⟨rfl, rfl⟩
        exact ⟨.int .i64 (rej : Int), rfl, HC.out, Below.refl _ _, put_at (by rw [hB.size, HSZ.out]; decide)⟩
       ·have g268 : a.tmps.getD 268 undef = .bool false := hR ⟨29, .guard⟩ (by simp) rfl
        have e9 : a.tmps.getD 9 undef = .pointer (some ⟨D, 0, none⟩) := (hB.slot 9 (by decide)).trans HX9.out
        clear hR
        refine if_yes (wanted_at rfl (by kernel_rfl) (by rw [hB.size, HSZ.out]; decide) g268 rfl) ?_
        unfold Oper.wp; go_simp
        exact ⟨.pointer (some ⟨D, 10, none⟩), rfl, HC.out, Below.refl _ _, put_at (by rw [hB.size, HSZ.out]; decide)⟩
       ·have g268 : a.tmps.getD 268 undef = .bool false := hR ⟨29, .guard⟩ (by simp) rfl
        have h271 : a.tmps.getD 271 undef = .pointer (some ⟨D, 10, none⟩) := hR ⟨32, .data⟩ (by simp) rfl
        have hc : w'.cell? ⟨D, 10, none⟩ = some (.int .i64 (rej : Int)) := HK10.out w' HC.out
        clear hR
        refine if_yes (wanted_at rfl (by kernel_rfl) (by rw [hB.size, HSZ.out]; decide) g268 rfl) ?_
        unfold Oper.wp; go_simp
        exact ⟨.int .i64 (rej : Int), rfl, HC.out, Below.refl _ _, put_at (by rw [hB.size, HSZ.out]; decide)⟩
       ·have g268 : a.tmps.getD 268 undef = .bool false := hR ⟨29, .guard⟩ (by simp) rfl
        have h270 : a.tmps.getD 270 undef = .int .i64 (rej : Int) := hR ⟨31, .data⟩ (by simp) rfl
        have h272 : a.tmps.getD 272 undef = .int .i64 (rej : Int) := hR ⟨33, .data⟩ (by simp) rfl
        clear hR
        refine if_yes (wanted_at rfl (by kernel_rfl) (by rw [hB.size, HSZ.out]; decide) g268 rfl) ?_
        unfold Oper.wp; go_simp
        exact ⟨.bool false, rfl, HC.out, Below.refl _ _, put_at (by rw [hB.size, HSZ.out]; decide)⟩
       ·have h268 : a.tmps.getD 268 undef = .bool false := hR ⟨29, .data⟩ (by simp) rfl
        have h273 : a.tmps.getD 273 undef = .bool false := hR ⟨34, .data⟩ (by simp) rfl
        clear hR
        refine if_yes rfl ?_
        unfold Oper.wp; go_simp
        exact ⟨.bool false, rfl, HC.out, Below.refl _ _, put_at (by rw [hB.size, HSZ.out]; decide)⟩
      ·intro a' w' hC hB hR
       have h274 : a'.tmps.getD 274 undef = .bool false := hR 35 (by decide)
       have HS3 := Lib.hid (HS2.out w' hC)
       obtain ⟨u, hu⟩ : ∃ u : Nat → Value, ∀ j, a'.tmps.getD j undef = u j := ⟨_, fun _ => rfl⟩
       have hp := hB.puts 36 (by rw [HSZ.out]; decide) rfl
       simp only [hu] at hp h274
       have hp2 : a' = ⟨(A.tmps.toList.take 239 ++ [(u 239), (u 240), (u 241), (u 242), (u 243), (u 244), (u 245), (u 246), (u 247), (u 248), (u 249), (u 250), (u 251), (u 252), (u 253), (u 254), (u 255), (u 256), (u 257), (u 258), (u 259), (u 260), (u 261), (u 262), (u 263), (u 264), (u 265), (u 266), (u 267), (u 268), (u 269), (u 270), (u 271), (u 272), (u 273), (.bool false)] ++ A.tmps.toList.drop 275).toArray, A.defers⟩ := by
        rw [hp, show List.range 36 = [0, 1, 2, 3, 4, 5, 6, 7, 8, 9, 10, 11, 12, 13, 14, 15, 16, 17, 18, 19, 20, 21, 22, 23, 24, 25, 26, 27, 28, 29, 30, 31, 32, 33, 34, 35] by decide]
        simp only [List.map_cons, List.map_nil, Nat.reduceAdd]
        rw [h274]
       clear hR h274 hC hB hu hp HOF HOP HCU HRE HK11 HK8 HK9 HK10 HS2
       subst hp2
       rw [← HA.out]
       clear HA HSZ HX7 HX9 HX13 HX14 HX15 HX16
       change (_ : Exit → Act → World → Prop) _ (⟨#[_, _, _, _, _, _, _, _, _, _, _, _, _, _, _, _, _, _, _, _, _, _, _, _, _, _, _, _, _, _, _, _, _, _, _, _, _, _, _, _, _, _, _, _, _, _, _, _, _, _, _, _, _, _, _, _, _, _, _, _, _, _, _, _, _, _, _, _, _, _, _, _, _, _, _, _, _, _, _, _, _, _, _, _, _, _, _, _, _, _, _, _, _, _, _, _, _, _, _, _, _, _, _, _, _, _, _, _, _, _, _, _, _, _, _, _, _, _, _, _, _, _, _, _, _, _, _, _, _, _, _, _, _, _, _, _, _, _, _, _, _, _, _, _, _, _, _, _, _, _, _, _, _, _, _, _, _, _, _, _, _, _, _, _, _, _, _, _, _, _, _, _, _, _, _, _, _, _, _, _, _, _, _, _, _, _, _, _, _, _, _, _, _, _, _, _, _, _, _, _, _, _, _, _, _, _, _, _, _, _, _, _, _, _, _, _, _, _, _, _, _, _, _, _, _, _, _, _, _, _, _, _, _, _, _, _, _, _, _, _, _, _, _, _, _, _, _, _, _, _, _, _, _, _, _, _, _, _, _, _, _, _, _, _, _, _, _, _, _, _, _, _, _, _, _, _, _, _, _, _, _], _⟩ : Act) _
       go_wp2_with fail
       go_roundw
       case rel => exact ⟨i + 1, by omega, by omega, by go_num, HS3⟩
       case measure =>
        first
         | (simp only [intOf]; omega)
         | (show 40 - ((i : Int) + 1).toNat < 40 - (i : Int).toNat; omega)
   ·have hcc : ¬ ((i : Int) < (nl : Int)) ∨ ((i : Int) < (nl : Int) ∧ ¬ ((i : Int) < 40)) := by omega
    clear hlt
    have PB := Lib.hid P.out.blk
    rcases hcc with hcc | ⟨hcc, hcc2⟩
    all_goals
     go_wp2_with (refine wpList_load_row rfl 32 (.tmp 9) rfl D rfl 32 (chv c oc k of m) (0, 0) _ PB.out Tryz.underlying32 rfl size_chip ?_)
     refine (walk_alike o F c oc of k m L i HWF.out _ P.out.one.ch P.out.ref).mono ?_
     rintro e w5 ⟨rfl, hb⟩
     have P5 := Lib.hid (P.out.after hb)
     clear hb
     go_wp2_with fail
     refine (ch_works _ (HTB.out _ P5.out.one.low)).mono ?_
     rintro e w6 ⟨rfl, hb⟩
     have HB6 := Lib.hid (P5.out.one.low.trans (hb.mono P5.out.one.low.size))
     clear hb
     go_wp2_with fail
     go_ret
     exact ⟨rfl, HB6.out⟩
 ·obtain rfl := hno hok
  have HOK := Lib.hid hok
  clear hyes hno hok hb1
  go_wp2_with (refine wpList_load_row rfl 23 (.tmp 3) rfl w.heap.size rfl 23 #[.int .i64 b, .int .i64 l, .int .i64 y, .int .i64 n, .int .i64 s, .int .i64 r] (0, 0) _ HG1.out Tryz.underlying23 rfl size_geoC ?_)
  have hrn := rch_new b l y n s r of capf fs (by have := HFL.out; unfold maxLen; omega) w1 (HF.out.below HB1.out)
  rw [HNF.out] at hrn
  refine hrn.mono ?_
  clear hrn
  rintro e w2 ⟨_, hno2, hb2⟩
  obtain rfl := hno2 HOK.out
  have hz2 : Blk (w2.alloc (.cells #[.int .i64 0, .int .i64 0, .int .i64 0, .int .i64 0, .int .i64 0, .int .i64 0, .slice none 0 0, .slice none 0 0, .int .i64 0, .int .i64 0, .int .i64 0, .bool false, .bool false, .int .i64 0, .int .i64 0] 32)) w2.heap.size chz 32 := Blk.new _ _ _
  have hlo : Below w.heap.size w ((w2.alloc (.cells #[.int .i64 0, .int .i64 0, .int .i64 0, .int .i64 0, .int .i64 0, .int .i64 0, .slice none 0 0, .slice none 0 0, .int .i64 0, .int .i64 0, .int .i64 0, .bool false, .bool false, .int .i64 0, .int .i64 0] 32)).setRow w2.heap.size chz) := below_put (Nat.le_trans HB1.out.size hb2.size) _ ((HB1.out.trans (hb2.mono HB1.out.size)).alloc (Nat.le_trans HB1.out.size hb2.size) _)
  obtain ⟨w3, hw3⟩ : ∃ w3, (w2.alloc (.cells #[.int .i64 0, .int .i64 0, .int .i64 0, .int .i64 0, .int .i64 0, .int .i64 0, .slice none 0 0, .slice none 0 0, .int .i64 0, .int .i64 0, .int .i64 0, .bool false, .bool false, .int .i64 0, .int .i64 0] 32)).setRow w2.heap.size chz = w3 := ⟨_, rfl⟩
  rw [hw3] at hlo
  have HZ2 := Lib.hid hz2
  have HW3 := Lib.hid hw3
  have HLO := Lib.hid hlo
  clear hno2 hb2 hz2 hlo hw3
  go_wp2_with (refine wpList_store_row rfl 32 (.tmp 9) (.tmp 27) rfl w2.heap.size chz rfl rfl 32 chz HZ2.out size_chip rfl chz_one ?_)
  rw [HW3.out]
  refine (ch_works _ (HTB.out _ HLO.out)).mono ?_
  rintro e w4 ⟨rfl, hb4⟩
  have HB4 := Lib.hid (HLO.out.trans (hb4.mono HLO.out.size))
  clear hb4
  go_wp2_with fail
  go_ret
  exact ⟨rfl, HB4.out⟩
end Go.Proofs.YtalefbmoebobkaaGreatDoor
/- Layer 10: parameters that are slices of acts: opened; shut again by Below.trod. -/
namespace Go.Proofs.YtalefbmoebobkaaGreatDoor
set_option maxRecDepth 100000
open Go.RowKit Go.ChangeShapes Go.WideShapes Go.ChangeAt
section
variable {H : Type} {enc : TypeId × Value → H} {P : Program} {w : World} {base : Nat} {sp : Nat → Bool} {held : Bool}
theorem list11Q {α : Type} {l : List α} (h : l.length = 11) : ∃ a b c d e f g i j k m, l = [a, b, c, d, e, f, g, i, j, k, m] := by
 match l, h with
 | [a, b, c, d, e, f, g, i, j, k, m], _ => exact ⟨a, b, c, d, e, f, g, i, j, k, m, rfl⟩
theorem open_actq {e : TypeId} {f0 f1 f2 f3 g0 g1 g2 g3 a0 a1 a2 : Field} {s : TypeId} {fuel : Nat} {cs : List Value} {x : DataW H × List MemPlace}
  (he : P.underlying e = some (.struct #[f0, f1, f2, f3])) (hC : P.cellsOf e = 11)
  (ho : f0.offset = 0 ∧ f1.offset = 1 ∧ f2.offset = 4 ∧ f3.offset = 7) (hc : P.cellsOf f0.type = 1 ∧ P.cellsOf f1.type = 3 ∧ P.cellsOf f2.type = 3 ∧ P.cellsOf f3.type = 4)
  (h0 : P.underlying f0.type = some (.int .i64)) (h1 : P.underlying f1.type = some (.struct #[a0, a1, a2])) (ao : a0.offset = 0 ∧ a1.offset = 1 ∧ a2.offset = 2) (ac : P.cellsOf a0.type = 1 ∧ P.cellsOf a1.type = 1 ∧ P.cellsOf a2.type = 1)
  (j0 : P.underlying a0.type = some (.int .i64)) (j1 : P.underlying a1.type = some (.int .i64)) (j2 : P.underlying a2.type = some (.int .i64))
  (h3 : P.underlying f2.type = some (.array 3 s)) (hs : P.underlying s = some .string) (hsc : P.cellsOf s = 1)
  (h4 : P.underlying f3.type = some (.struct #[g0, g1, g2, g3])) (go : g0.offset = 0 ∧ g1.offset = 1 ∧ g2.offset = 2 ∧ g3.offset = 3) (gc : P.cellsOf g0.type = 1 ∧ P.cellsOf g1.type = 1 ∧ P.cellsOf g2.type = 1 ∧ P.cellsOf g3.type = 1)
  (k0 : P.underlying g0.type = some (.int .i64)) (k1 : P.underlying g1.type = some (.int .i64)) (k2 : P.underlying g2.type = some (.int .i64)) (k3 : P.underlying g3.type = some (.int .i64))
  (h : DataW.trod enc P w base sp held fuel e cs = some x) : ∃ A : ActQ, cs = (actq A).toList := by
 obtain ⟨xs, n, _, _, hl, hlen, hx⟩ := DataW.trod_struct he h
 have hl11 : cs.length = 11 := hl.trans hC
 obtain ⟨a, b, c, d, e', f, g, i, j, k, m', rfl⟩ := list11Q hl11
 have hl4' : xs.length = 4 := by simpa using hlen
 obtain ⟨o0, o1, o2, o3⟩ := ho
 obtain ⟨c0, c1, c2, c3⟩ := hc
 obtain ⟨q0, q1, q2, q3⟩ := go
 obtain ⟨r0, r1, r2, r3⟩ := gc
 obtain ⟨b0, b1, b2⟩ := ao
 obtain ⟨d0, d1, d2⟩ := ac
 have e0 := hx 0 f0 rfl
 rw [o0, c0, List.getElem?_eq_getElem (by omega)] at e0
 obtain ⟨n0, z0, _⟩ := DataW.trod_int h0 e0
 have e1 := hx 1 f1 rfl
 rw [o1, c1, List.getElem?_eq_getElem (by omega)] at e1
 obtain ⟨qs, m3, _, _, hla, hlaa, ha⟩ := DataW.trod_struct h1 e1
 have hl3 : qs.length = 3 := by simpa using hlaa
 have s0 := ha 0 a0 rfl
 rw [b0, d0, List.getElem?_eq_getElem (by omega)] at s0
 obtain ⟨n1, z1, _⟩ := DataW.trod_int j0 s0
 have s1 := ha 1 a1 rfl
 rw [b1, d1, List.getElem?_eq_getElem (by omega)] at s1
 obtain ⟨n2, z2, _⟩ := DataW.trod_int j1 s1
 have s2 := ha 2 a2 rfl
 rw [b2, d2, List.getElem?_eq_getElem (by omega)] at s2
 obtain ⟨n3, z3, _⟩ := DataW.trod_int j2 s2
 have e3 := hx 2 f2 rfl
 rw [o2, c2, List.getElem?_eq_getElem (by omega)] at e3
 obtain ⟨ys, m, _, _, _, hly, hy⟩ := DataW.trod_array h3 e3
 have y0 := hy 0 (by omega)
 have y1 := hy 1 (by omega)
 have y2 := hy 2 (by omega)
 rw [hsc, List.getElem?_eq_getElem (by omega)] at y0 y1 y2
 obtain ⟨p, zp, _⟩ := DataW.trod_string hs y0
 obtain ⟨q, zq, _⟩ := DataW.trod_string hs y1
 obtain ⟨r, zr, _⟩ := DataW.trod_string hs y2
 have e4 := hx 3 f3 rfl
 rw [o3, c3, List.getElem?_eq_getElem (by omega)] at e4
 obtain ⟨us, m2, _, _, hlu0, hlu, hu⟩ := DataW.trod_struct h4 e4
 have hl4 : us.length = 4 := by simpa using hlu
 have u0 := hu 0 g0 rfl
 rw [q0, r0, List.getElem?_eq_getElem (by omega)] at u0
 obtain ⟨t0, v0, _⟩ := DataW.trod_int k0 u0
 have u1 := hu 1 g1 rfl
 rw [q1, r1, List.getElem?_eq_getElem (by omega)] at u1
 obtain ⟨t1, v1, _⟩ := DataW.trod_int k1 u1
 have u2 := hu 2 g2 rfl
 rw [q2, r2, List.getElem?_eq_getElem (by omega)] at u2
 obtain ⟨t2, v2, _⟩ := DataW.trod_int k2 u2
 have u3 := hu 3 g3 rfl
 rw [q3, r3, List.getElem?_eq_getElem (by omega)] at u3
 obtain ⟨t3, v3, _⟩ := DataW.trod_int k3 u3
 simp at z0 z1 z2 z3 zp zq zr v0 v1 v2 v3
 exact ⟨⟨n0, n1, n2, n3, p, q, r, t0, t1, t2, t3⟩, by rw [z0, z1, z2, z3, zp, zq, zr, v0, v1, v2, v3]; rfl⟩
end
theorem open_actsq {H : Type} {enc : TypeId × Value → H} {w : World} {base : Nat} {r : Go.Reach} {b0 : Nat} {v : Value} {d : DataW H} {ps : List MemPlace}
  (hval : Value.okWide Tryz.prog w r b0 25 v) (hd : DataW.Trod enc Tryz.prog w base (fun _ => true) true 25 v d ps) :
  ∃ (oa : Option Addr) (cap : Nat) (l : List ActQ), v = .slice oa l.length cap ∧ l.length ≤ maxLen ∧ ActsQ w oa l := by
 have hu := Tryz.underlying42
 have hC : Tryz.prog.cellsOf 42 = 11 := by kernel_rfl
 obtain ⟨a0, len, cap, rfl⟩ := okWide_slice Tryz.underlying25 hval
 obtain ⟨fuel, hf⟩ := hd
 rcases Deep.open_slice Tryz.underlying25 hf with ⟨hcs, _⟩ | ⟨a, len', cap', m, n, D, Pl, hcs, _, hl, hm, hmm, _, hx⟩
 ·simp [Value.cells] at hcs
  obtain ⟨rfl, rfl, rfl⟩ := hcs
  exact ⟨none, 0, [], rfl, Nat.zero_le _, fun i hi => absurd hi (Nat.not_lt_zero i)⟩
 ·simp [Value.cells] at hcs
  obtain ⟨rfl, rfl, rfl⟩ := hcs
  simp only [if_true] at hmm
  have each : ∀ i, i < len → ∃ A : ActQ, a.block < w.heap.size ∧ ∀ t, t < 11 → w.cell? ((a.add (i * 11)).add t) = (actq A)[t]? := by
   intro i hi
   obtain ⟨cs', h1, h2⟩ := hx i (by omega)
   rw [hC] at h1
   obtain ⟨_, hlen, hcell⟩ := World.cells?_some h1
   obtain ⟨A, hA⟩ : ∃ A : ActQ, cs' = (actq A).toList := open_actq hu hC ⟨rfl, rfl, rfl, rfl⟩ ⟨by kernel_rfl, by kernel_rfl, by kernel_rfl, by kernel_rfl⟩ Tryz.underlying3 Tryz.underlying37 ⟨rfl, rfl, rfl⟩ ⟨by kernel_rfl, by kernel_rfl, by kernel_rfl⟩ Tryz.underlying3 Tryz.underlying3 Tryz.underlying3 Tryz.underlying38 Tryz.underlying9 (by kernel_rfl) Tryz.underlying40 ⟨rfl, rfl, rfl, rfl⟩ ⟨by kernel_rfl, by kernel_rfl, by kernel_rfl, by kernel_rfl⟩ Tryz.underlying3 Tryz.underlying3 Tryz.underlying3 Tryz.underlying3 h2
   subst hA
   have h0 := hcell 0 (by omega)
   refine ⟨A, ?_, fun t ht => ?_⟩
   ·have h5 : w.cell? ((a.add (i * 11)).add 0) = some (.int .i64 A.op) := h0
    have := cell_lt h5
    rwa [add_block, add_block] at this
   ·rw [hcell t ht, Array.getElem?_toList]
  have : Inhabited ActQ := ⟨⟨0, 0, 0, 0, ByteArray.empty, ByteArray.empty, ByteArray.empty, 0, 0, 0, 0⟩⟩
  obtain ⟨f, hf2⟩ := Deep.choose_lt each
  refine ⟨some a, cap, (List.range len).map f, by simp, by simp; omega, fun i hi => ?_⟩
  have hi2 : i < len := by simpa using hi
  have h := hf2 i hi2
  refine ⟨a, rfl, h.1, fun t ht => ?_⟩
  rw [h.2 t ht]
  simp
/- Parameters that are slices of faults: opened; shut again by Below.trod. -/
section
variable {H : Type} {enc : TypeId × Value → H} {P : Program} {w : World} {base : Nat} {sp : Nat → Bool} {held : Bool}
theorem open_fault {e : TypeId} {g0 g1 g2 g3 : Field} {fuel : Nat} {cs : List Value} {x : DataW H × List MemPlace}
  (h4 : P.underlying e = some (.struct #[g0, g1, g2, g3])) (hC : P.cellsOf e = 4) (go : g0.offset = 0 ∧ g1.offset = 1 ∧ g2.offset = 2 ∧ g3.offset = 3) (gc : P.cellsOf g0.type = 1 ∧ P.cellsOf g1.type = 1 ∧ P.cellsOf g2.type = 1 ∧ P.cellsOf g3.type = 1)
  (k0 : P.underlying g0.type = some (.int .i64)) (k1 : P.underlying g1.type = some (.int .i64)) (k2 : P.underlying g2.type = some (.int .i64)) (k3 : P.underlying g3.type = some (.int .i64))
  (h : DataW.trod enc P w base sp held fuel e cs = some x) : ∃ A : Fa, cs = encF A := by
 obtain ⟨us, m2, _, _, hl, hlu, hu⟩ := DataW.trod_struct h4 h
 have hl4 : us.length = 4 := by simpa using hlu
 have hc4 : cs.length = 4 := hl.trans hC
 obtain ⟨c0, c1, c2, c3, rfl⟩ : ∃ a b c d, cs = [a, b, c, d] := by
  match cs, hc4 with
  | [a, b, c, d], _ => exact ⟨a, b, c, d, rfl⟩
 obtain ⟨q0, q1, q2, q3⟩ := go
 obtain ⟨r0, r1, r2, r3⟩ := gc
 have u0 := hu 0 g0 rfl
 rw [q0, r0, List.getElem?_eq_getElem (by omega)] at u0
 obtain ⟨t0, v0, _⟩ := DataW.trod_int k0 u0
 have u1 := hu 1 g1 rfl
 rw [q1, r1, List.getElem?_eq_getElem (by omega)] at u1
 obtain ⟨t1, v1, _⟩ := DataW.trod_int k1 u1
 have u2 := hu 2 g2 rfl
 rw [q2, r2, List.getElem?_eq_getElem (by omega)] at u2
 obtain ⟨t2, v2, _⟩ := DataW.trod_int k2 u2
 have u3 := hu 3 g3 rfl
 rw [q3, r3, List.getElem?_eq_getElem (by omega)] at u3
 obtain ⟨t3, v3, _⟩ := DataW.trod_int k3 u3
 simp at v0 v1 v2 v3
 exact ⟨(t0, t1, t2, t3), by rw [v0, v1, v2, v3]; rfl⟩
end
theorem open_faults {H : Type} {enc : TypeId × Value → H} {w : World} {base : Nat} {r : Go.Reach} {b0 : Nat} {v : Value} {d : DataW H} {ps : List MemPlace}
  (hval : Value.okWide Tryz.prog w r b0 24 v) (hd : DataW.Trod enc Tryz.prog w base (fun _ => true) true 24 v d ps) :
  ∃ (oa : Option Addr) (cap : Nat) (l : List Fa), v = .slice oa l.length cap ∧ l.length ≤ maxLen ∧ FsAt w oa l := by
 have hu := Tryz.underlying40
 have hC : Tryz.prog.cellsOf 40 = 4 := by kernel_rfl
 obtain ⟨a0, len, cap, rfl⟩ := okWide_slice Tryz.underlying24 hval
 obtain ⟨fuel, hf⟩ := hd
 rcases Deep.open_slice Tryz.underlying24 hf with ⟨hcs, _⟩ | ⟨a, len', cap', m, n, D, Pl, hcs, _, hl, hm, hmm, _, hx⟩
 ·simp [Value.cells] at hcs
  obtain ⟨rfl, rfl, rfl⟩ := hcs
  exact ⟨none, 0, [], rfl, Nat.zero_le _, FsAt.nil _ _⟩
 ·simp [Value.cells] at hcs
  obtain ⟨rfl, rfl, rfl⟩ := hcs
  simp only [if_true] at hmm
  have each : ∀ i, i < len → ∃ A : Fa, ∀ t, t < 4 → w.cell? ((a.add (i * 4)).add t) = (encF A)[t]? := by
   intro i hi
   obtain ⟨cs', h1, h2⟩ := hx i (by omega)
   rw [hC] at h1
   obtain ⟨_, hlen, hcell⟩ := World.cells?_some h1
   obtain ⟨A, hA⟩ : ∃ A : Fa, cs' = encF A := open_fault hu hC ⟨rfl, rfl, rfl, rfl⟩ ⟨by kernel_rfl, by kernel_rfl, by kernel_rfl, by kernel_rfl⟩ Tryz.underlying3 Tryz.underlying3 Tryz.underlying3 Tryz.underlying3 h2
   subst hA
   exact ⟨A, fun t ht => hcell t ht⟩
  obtain ⟨f, hf2⟩ := Deep.choose_lt each
  refine ⟨some a, cap, (List.range len).map f, by simp, by simp; omega, fun hne => ?_⟩
  have hlen : 0 < len := by
   rcases Nat.eq_zero_or_pos len with h | h
   ·subst h; simp at hne
   ·exact h
  obtain ⟨b, off, spot⟩ := a
  have h00 : w.cell? (((⟨b, off, spot⟩ : Addr).add (0 * 4)).add 0) = some (.int .i64 (f 0).1) := hf2 0 hlen 0 (by omega)
  have hspot : spot = none := by simpa [Addr.add] using World.cell?_spot h00
  subst hspot
  refine ⟨b, off, rfl, ?_, fun i hi j v hj => ?_⟩
  ·have := cell_lt h00
   rwa [add_block, add_block] at this
  ·have hi2 : i < len := by simpa using hi
   have hj4 : j < 4 := (List.getElem?_eq_some_iff.1 hj).1
   have h := hf2 i hi2 j hj4
   rw [Addr.add_lit, Addr.add_lit] at h
   rw [h]
   simpa using hj
theorem faults_len {H : Type} {enc : TypeId × Value → H} {w : World} {base : Nat} {v : Value} {d : DataW H} {ps : List MemPlace} {oa : Option Addr} {n cap : Nat}
  (hd : DataW.Trod enc Tryz.prog w base (fun _ => true) true 24 v d ps) (hv : v = .slice oa n cap) : n = 0 ∨ ∃ el sp, d = .slice el sp ∧ el.length = n := by
 subst hv
 obtain ⟨fuel, hf⟩ := hd
 rcases Deep.open_slice Tryz.underlying24 hf with ⟨hcs, _⟩ | ⟨a, len', cap', m, k, D, Pl, hcs, _, _, _, _, hx, _⟩
 ·simp [Value.cells] at hcs
  exact Or.inl hcs.2.1
 ·simp [Value.cells] at hcs
  obtain ⟨rfl, rfl, rfl⟩ := hcs
  exact Or.inr ⟨_, _, (Prod.mk.inj hx).1, by simp⟩
end Go.Proofs.YtalefbmoebobkaaGreatDoor
