/- Texts of one claim, merged: FaS5, FaS6, FaS8, FaE, FaC4, FaC5, FaC7, FaI, ChC1, ChC2. -/
import Derived.Test.YtalefbmoebobkaaGreatDoorS8
import Derived.Test.YtalefbmoebobkaaGreatDoorS6
import Derived.Laws.StructEq
import Derived.Test.YtalefbmoebobkaaGreatDoorS1
import Derived.Laws.AppendOwn
import Derived.Test.YtalefbmoebobkaaGreatDoorS3
import Derived.RangeFuncBox
import Derived.OwnWalkIn
/- slices.symMergeCmpFunc at faults, walked: the rows are cut, and each half is merged. Written by wip/tools/mkfas2.py. -/
namespace Go.Proofs.YtalefbmoebobkaaGreatDoor
set_option maxRecDepth 100000
open Go.Shelf Go.RowKit Go.Lib Go.Sort Go.Proofs
set_option maxHeartbeats 40000000 in
set_option maxRecDepth 1000000 in
theorem sw_sym4 {P : Program} {k : Nat} (L : Prg P k) (g : Nat) (cb : Array Value) (eg : ∀ args w, (callFunc g args).run P w = .ok (.enter g args) w) (blk off cap : Nat) (d0 : Array Fa) (w0 : World) (hcmp : CmpLays P g cb encF k cfF blk off d0.size w0) (R : RowK encF k w0 blk off d0)
  (N a m b : Nat) (d : Array Fa) (A X Y B : List Fa) (w : World) (IH : SymC P k g cb blk off cap d0 w0 N) (hN : b - a ≤ N + 1) (hs : d0.size = d.size) (S : SWK encF k w0 blk off d w) (ham : a < m) (hmb : m < b) (hsz : d.size < 1152921504606846976) (hL : SyL a m b d A X Y B) (_ : ¬ m = a + 1) (_ : ¬ b = m + 1) (_ : ¬ (a + b) / 2 < m) :
  Calls P 157 #[.slice (some ⟨blk, off, none⟩) d.size cap, .int .i64 a, .int .i64 m, .int .i64 b, .func (.func g) #[] cb] w fun e w' => e = .returned (.tuple #[]) ∧ ∃ d' : Array Fa, d'.size = d.size ∧ SyE A X Y B d' ∧ SWK encF k w0 blk off d' w' := by
 have mixed := L.mixed; have t0 := L.t0; have a0 := L.a0; have z0 := L.z0; have v0 := L.v0; have t3 := L.t3; have a3 := L.a3; have z3 := L.z3; have v3 := L.v3; have t4 := L.t4; have a4 := L.a4; have z4 := L.z4; have v4 := L.v4; have t22 := L.t22; have a22 := L.a22; have z22 := L.z22; have v22 := L.v22; have t48 := L.t48; have a48 := L.a48; have z48 := L.z48; have v48 := L.v48; have t58 := L.t58; have a58 := L.a58; have z58 := L.z58; have v58 := L.v58
 have aE := L.aF; have zE := L.zF
 have FG := L.fSy
 have eRo : ∀ args w, (callFunc 167 args).run P w = .ok (.enter 167 args) w := enters_of L.fRo (by kernel_rfl) rfl
 have eSy : ∀ args w, (callFunc 157 args).run P w = .ok (.enter 157 args) w := enters_of L.fSy (by kernel_rfl) rfl
 have hb := hL.size
 have HC : Aside _ := hcmp
 have HIH : Aside (SymC P k g cb blk off cap d0 w0 N) := IH
 have HL : Aside (SyL a m b d A X Y B) := hL
 have S0 : Aside (SWK encF k w0 blk off d w) := S
 clear hcmp S hL IH
 have h1z : ¬ (m : Int) - (a : Int) = 1 := by omega
 have h1b : ((m : Int) - (a : Int) == 1) = false := by simp; omega
 have h2z : ¬ (b : Int) - (m : Int) = 1 := by omega
 have h2b : ((b : Int) - (m : Int) == 1) = false := by simp; omega
 obtain ⟨mid, hmid⟩ : ∃ mid, mid = (a + b) / 2 := ⟨_, rfl⟩
 have hmz : ((a : Int) + (b : Int)) / 2 = (mid : Int) := by omega
 have HM : Hid (mid = (a + b) / 2) := hmid
 have hm1 : a < mid := by omega
 have hm2 : mid < b := by omega
 have hm3 : 2 * mid ≤ a + b := by omega
 have hm4 : a + b ≤ 2 * mid + 1 := by omega
 have hmm : ¬ mid < m := by omega
 clear hmid
 have hmmz : ¬ (mid : Int) < (m : Int) := by omega
 have hmmb : decide ((mid : Int) < (m : Int)) = false := decide_eq_false hmmz
 go_enter FG, Tryz.ntmps157
 go_wp2
 go_loopg [20, 21] (m - a) (fun kx s10 s11 wr => ∃ p q : Nat, s10 = .int .i64 p ∧ s11 = .int .i64 q ∧ a ≤ p ∧ p ≤ q ∧ q ≤ m ∧ q - p ≤ kx ∧ Aside (SWK encF k w0 blk off d wr) ∧ Aside ((a < p → d[p - 1]!.1 ≤ d[mid + m - p]!.1) ∧ (q < m → d[mid + m - 1 - q]!.1 < d[q]!.1)))
 case atStart => exact ⟨a, m, rfl, rfl, Nat.le_refl _, by omega, Nat.le_refl _, Nat.le_refl _, S0, ⟨fun h => by omega, fun h => by omega⟩⟩
 case round =>
  clear S0
  obtain ⟨p, q, rfl, rfl, hmp, hpq, hqb, hkx, S1, E1⟩ := hrel
  by_cases hlt : p < q
  ·have hltz : (p : Int) < (q : Int) := by omega
   have hq1 : (p + q) / 2 + 1 ≤ mid + m := by omega
   obtain ⟨jx, hjx⟩ : ∃ jx, jx = mid + m - 1 - (p + q) / 2 := ⟨_, rfl⟩
   have HJ : Hid (jx = mid + m - 1 - (p + q) / 2) := hjx
   have hjz : (mid : Int) + (m : Int) - 1 - ((p : Int) + (q : Int)) / 2 = (jx : Int) := by omega
   have hjw : IntKind.i64.wrap ((mid : Int) + (m : Int) - 1 - ((p : Int) + (q : Int)) / 2) = (jx : Int) := by rw [IntKind.wrap_i64]; omega
   have hjb : jx < b := by omega
   clear hjx
   by_cases hv : d[jx]!.1 < d[(p + q) / 2]!.1
   ·have hv0 : True := trivial
    have ea24 : ((jx : Int)).toNat = jx := by omega
    have pa24 : (0 : Int) ≤ (jx : Int) := by omega
    have ba24 : (jx : Int) < (d.size : Int) := by omega
    have ra24 : IntKind.i64.wrap ((jx : Int)) = (jx : Int) := by rw [IntKind.wrap_i64]; omega
    have ea24c : (((p : Int) + (q : Int)) / 2).toNat = (p + q) / 2 := by omega
    have pa24c : (0 : Int) ≤ ((p : Int) + (q : Int)) / 2 := by omega
    have ba24c : ((p : Int) + (q : Int)) / 2 < (d.size : Int) := by omega
    have ra24c : IntKind.i64.wrap (((p : Int) + (q : Int)) / 2) = ((p : Int) + (q : Int)) / 2 := by rw [IntKind.wrap_i64]; omega
    obtain ⟨x24, hx24⟩ : ∃ x, x = d[jx]! := ⟨_, rfl⟩
    obtain ⟨y24, hy24⟩ : ∃ x, x = d[(p + q) / 2]! := ⟨_, rfl⟩
    have l24a := S1.out.ld R (by omega) P (jx) (by omega)
    have l24b := S1.out.ld R (by omega) P ((p + q) / 2) (by omega)
    rw [← hx24] at l24a
    rw [← hy24] at l24b
    have hc24 := S1.out.cmp HC.out (by omega) x24 y24
    have hv24 : cfF x24 y24 < 0 := by rw [hx24, hy24]; exact (cf_lt _ _).2 hv
    have hd24 : decide (cfF x24 y24 < 0) = true := decide_eq_true hv24
    clear hx24 hy24
    go_wp2_with fail
    go_quiet_grown (first | (go_at_fn g; refine Calls.grown_of (hc24 _ _)))
    have S2 : Aside (SWK encF k w0 blk off d (grow (wr.drewN nq) osq)) := S1.out.grown nq osq
    clear l24a l24b hc24 S1
    generalize grow (wr.drewN nq) osq = w2 at S2 ⊢
    clear nq osq
    go_wp2
    go_roundg ((p + q) / 2 - p)
    case measure => omega
    case rel =>
     have E2 : Aside ((a < p → d[p - 1]!.1 ≤ d[mid + m - p]!.1) ∧ ((p + q) / 2 < m → d[mid + m - 1 - (p + q) / 2]!.1 < d[(p + q) / 2]!.1)) := ⟨E1.out.1, fun _ => by rw [← HJ.out]; exact hv⟩
     exact ⟨p, (p + q) / 2, rfl, by rw [show ((p : Int) + (q : Int)) / 2 = (((p + q) / 2 : Nat) : Int) by omega], hmp, by omega, by omega, Nat.le_refl _, S2, E2⟩
   ·have hv0 : True := trivial
    have ea24 : ((jx : Int)).toNat = jx := by omega
    have pa24 : (0 : Int) ≤ (jx : Int) := by omega
    have ba24 : (jx : Int) < (d.size : Int) := by omega
    have ra24 : IntKind.i64.wrap ((jx : Int)) = (jx : Int) := by rw [IntKind.wrap_i64]; omega
    have ea24c : (((p : Int) + (q : Int)) / 2).toNat = (p + q) / 2 := by omega
    have pa24c : (0 : Int) ≤ ((p : Int) + (q : Int)) / 2 := by omega
    have ba24c : ((p : Int) + (q : Int)) / 2 < (d.size : Int) := by omega
    have ra24c : IntKind.i64.wrap (((p : Int) + (q : Int)) / 2) = ((p : Int) + (q : Int)) / 2 := by rw [IntKind.wrap_i64]; omega
    obtain ⟨x24, hx24⟩ : ∃ x, x = d[jx]! := ⟨_, rfl⟩
    obtain ⟨y24, hy24⟩ : ∃ x, x = d[(p + q) / 2]! := ⟨_, rfl⟩
    have l24a := S1.out.ld R (by omega) P (jx) (by omega)
    have l24b := S1.out.ld R (by omega) P ((p + q) / 2) (by omega)
    rw [← hx24] at l24a
    rw [← hy24] at l24b
    have hc24 := S1.out.cmp HC.out (by omega) x24 y24
    have hv24 : ¬ cfF x24 y24 < 0 := by rw [hx24, hy24]; exact fun h => hv ((cf_lt _ _).1 h)
    have hd24 : decide (cfF x24 y24 < 0) = false := decide_eq_false hv24
    clear hx24 hy24
    go_wp2_with fail
    go_quiet_grown (first | (go_at_fn g; refine Calls.grown_of (hc24 _ _)))
    have S2 : Aside (SWK encF k w0 blk off d (grow (wr.drewN nq) osq)) := S1.out.grown nq osq
    clear l24a l24b hc24 S1
    generalize grow (wr.drewN nq) osq = w2 at S2 ⊢
    clear nq osq
    go_wp2
    go_roundg (q - ((p + q) / 2 + 1))
    case measure => omega
    case rel =>
     have E2 : Aside ((a < (p + q) / 2 + 1 → d[(p + q) / 2 + 1 - 1]!.1 ≤ d[mid + m - ((p + q) / 2 + 1)]!.1) ∧ (q < m → d[mid + m - 1 - q]!.1 < d[q]!.1)) := ⟨fun _ => by rw [Nat.add_sub_cancel, show mid + m - ((p + q) / 2 + 1) = jx by rw [HJ.out]; omega]; omega, E1.out.2⟩
     exact ⟨(p + q) / 2 + 1, q, by rw [show ((p : Int) + (q : Int)) / 2 + 1 = (((p + q) / 2 + 1 : Nat) : Int) by omega], rfl, by omega, by omega, hqb, Nat.le_refl _, S2, E2⟩
  ·obtain rfl : p = q := by omega
   have hltz : ¬ (p : Int) < (p : Int) := by omega
   obtain ⟨X1, X2, Y1, Y2, hX, hY, l1, l2, l3, l4, h21, h12⟩ := HL.out.found ham hmb HM.out (Or.inr ⟨hmm, rfl, rfl⟩) hmp hqb E1.out.1 E1.out.2
   have lA := HL.out.ea
   have sX := HL.out.sX
   have sY := HL.out.sY
   have hl0 := HL.out.h
   rw [hX] at sX hl0
   rw [hY] at sY hl0
   obtain ⟨e, he⟩ : ∃ e, e = mid + m - p := ⟨_, rfl⟩
   have hez : (mid : Int) + (m : Int) - (p : Int) = (e : Int) := by omega
   rw [← he] at l3 l4
   have hp1 : a ≤ p := by omega
   have hp2 : p ≤ m := by omega
   have hp3 : p ≤ mid := by omega
   have he1 : m ≤ e := by omega
   have he2 : e ≤ b := by omega
   have he3 : mid ≤ e := by omega
   have he4 : e + p = mid + m := by omega
   have LN : Aside (X1.length = p - a ∧ X2.length = m - p ∧ Y1.length = e - m ∧ Y2.length = b - e ∧ a = A.length) := ⟨l1, l2, l3, l4, lA⟩
   have ORD : Aside (Srt (X1 ++ X2) ∧ Srt (Y1 ++ Y2) ∧ (∀ y ∈ Y1, ∀ x ∈ X2, y.1 < x.1) ∧ (∀ x ∈ X1, ∀ y ∈ Y2, x.1 ≤ y.1)) := ⟨sX, sY, h21, h12⟩
   have L0 : Aside (d.toList = A ++ (X1 ++ X2) ++ (Y1 ++ Y2) ++ B) := hl0
   subst hX hY
   clear l1 l2 l3 l4 lA sX sY hl0 h21 h12 he E1
   by_cases hr : p < m ∧ m < e
   ·have hry : (p : Int) < (m : Int) := by omega
    have hrz : (m : Int) < (e : Int) := by omega
    by_cases hs1 : a < p ∧ p < mid
    ·have hs1y : (a : Int) < (p : Int) := by omega
     have hs1z : (p : Int) < (mid : Int) := by omega
     by_cases hsb : mid < e ∧ e < b
     ·have hsby : (mid : Int) < (e : Int) := by omega
      have hsbz : (e : Int) < (b : Int) := by omega
      first
       | (exfalso; omega)
       | (
        have hcall := sw_rotate L g cb blk off cap p m e d0 d (A ++ X1 ++ Y1 ++ X2 ++ Y2 ++ B) w0 wr R hs S1.out hr.1 hr.2 (by omega) (by omega) ⟨A ++ X1, X2, Y1, Y2 ++ B, by rw [L0.out]; simp only [List.append_assoc], LN.out.2.1.symm, LN.out.2.2.1.symm, by have := LN.out; simp; omega, by simp only [List.append_assoc]⟩
        clear S1
        go_wp2_with fail
        refine hcall.mono ?_
        rintro r w1 ⟨rfl, d1, hz1, hl1, S2'⟩
        have S2 : Aside (SWK encF k w0 blk off d1 w1) := S2'
        have L1 : Aside (d1.toList = A ++ X1 ++ Y1 ++ X2 ++ Y2 ++ B) := hl1
        clear hcall hl1 S2'
        have hcall := HIH.out a p mid d1 A X1 Y1 (X2 ++ Y2 ++ B) _ (by omega) (by omega) S2.out hs1.1 hs1.2 (by omega) ⟨by rw [L1.out]; simp only [List.append_assoc], LN.out.2.2.2.2, by have := LN.out; omega, by have := LN.out; omega, ORD.out.1.left, ORD.out.2.1.left⟩
        rw [hz1] at hcall
        clear S2
        go_wp2_with fail
        refine hcall.mono ?_
        rintro r w2 ⟨rfl, d2, hz2, ⟨Z1, hl2, hZ1, hst1⟩, S3'⟩
        have S3 : Aside (SWK encF k w0 blk off d2 w2) := S3'
        have hzl := half_len L1.out hl2 (by omega)
        have L2 : Aside (d2.toList = A ++ Z1 ++ X2 ++ Y2 ++ B ∧ Z1.length = X1.length + Y1.length ∧ Srt Z1 ∧ StbF (X1 ++ Y1) Z1) := ⟨by rw [hl2]; simp only [List.append_assoc], hzl, hZ1, hst1⟩
        clear hcall hl2 hZ1 hst1 S3' hzl
        have hzd : d2.size = d.size := by omega
        have hcall := HIH.out mid e b d2 (A ++ Z1) X2 Y2 B _ (by omega) (by omega) S3.out hsb.1 hsb.2 (by omega) ⟨L2.out.1, by have := LN.out; have := L2.out.2.1; rw [List.length_append]; omega, by have := LN.out; omega, by have := LN.out; omega, ORD.out.1.right, ORD.out.2.1.right⟩
        rw [hzd] at hcall
        clear S3
        go_wp2_with fail
        refine hcall.mono ?_
        rintro r w3 ⟨rfl, d3, hz3, ⟨Z2, hl3, hZ2, hst2⟩, S4'⟩
        have S4 : Aside (SWK encF k w0 blk off d3 w3) := S4'
        have L3 : Aside (SyE A (X1 ++ X2) (Y1 ++ Y2) B d3) := sym_end ORD.out.1 ORD.out.2.1 ORD.out.2.2.1 ORD.out.2.2.2 L2.out.2.2 ⟨hZ2, hst2⟩ hl3
        clear hcall hl3 hZ2 hst2 S4'
        go_wp2_with fail
        go_end0
        exact ⟨rfl, d3, by omega, L3.out, S4.out⟩)
     ·by_cases hsbw : mid < e
      ·have hsby : (mid : Int) < (e : Int) := by omega
       have hsbz : ¬ (e : Int) < (b : Int) := by omega
       first
        | (exfalso; omega)
        | (
         have hcall := sw_rotate L g cb blk off cap p m e d0 d (A ++ X1 ++ Y1 ++ X2 ++ Y2 ++ B) w0 wr R hs S1.out hr.1 hr.2 (by omega) (by omega) ⟨A ++ X1, X2, Y1, Y2 ++ B, by rw [L0.out]; simp only [List.append_assoc], LN.out.2.1.symm, LN.out.2.2.1.symm, by have := LN.out; simp; omega, by simp only [List.append_assoc]⟩
         clear S1
         go_wp2_with fail
         refine hcall.mono ?_
         rintro r w1 ⟨rfl, d1, hz1, hl1, S2'⟩
         have S2 : Aside (SWK encF k w0 blk off d1 w1) := S2'
         have L1 : Aside (d1.toList = A ++ X1 ++ Y1 ++ X2 ++ Y2 ++ B) := hl1
         clear hcall hl1 S2'
         have hcall := HIH.out a p mid d1 A X1 Y1 (X2 ++ Y2 ++ B) _ (by omega) (by omega) S2.out hs1.1 hs1.2 (by omega) ⟨by rw [L1.out]; simp only [List.append_assoc], LN.out.2.2.2.2, by have := LN.out; omega, by have := LN.out; omega, ORD.out.1.left, ORD.out.2.1.left⟩
         rw [hz1] at hcall
         clear S2
         go_wp2_with fail
         refine hcall.mono ?_
         rintro r w2 ⟨rfl, d2, hz2, ⟨Z1, hl2, hZ1, hst1⟩, S3'⟩
         have S3 : Aside (SWK encF k w0 blk off d2 w2) := S3'
         have hzl := half_len L1.out hl2 (by omega)
         have L2 : Aside (d2.toList = A ++ Z1 ++ X2 ++ Y2 ++ B ∧ Z1.length = X1.length + Y1.length ∧ Srt Z1 ∧ StbF (X1 ++ Y1) Z1) := ⟨by rw [hl2]; simp only [List.append_assoc], hzl, hZ1, hst1⟩
         clear hcall hl2 hZ1 hst1 S3' hzl
         have L3 : Aside (SyE A (X1 ++ X2) (Y1 ++ Y2) B d2) := sym_end ORD.out.1 ORD.out.2.1 ORD.out.2.2.1 ORD.out.2.2.2 L2.out.2.2 ⟨half_same (by have := LN.out; omega) ORD.out.1.right ORD.out.2.1.right, StbF.refl _⟩ (by rw [L2.out.1]; simp only [List.append_assoc])
         go_wp2_with fail
         go_end0
         exact ⟨rfl, d2, by omega, L3.out, S3.out⟩)
      ·have hsby : ¬ (mid : Int) < (e : Int) := by omega
       first
        | (exfalso; omega)
        | (
         have hcall := sw_rotate L g cb blk off cap p m e d0 d (A ++ X1 ++ Y1 ++ X2 ++ Y2 ++ B) w0 wr R hs S1.out hr.1 hr.2 (by omega) (by omega) ⟨A ++ X1, X2, Y1, Y2 ++ B, by rw [L0.out]; simp only [List.append_assoc], LN.out.2.1.symm, LN.out.2.2.1.symm, by have := LN.out; simp; omega, by simp only [List.append_assoc]⟩
         clear S1
         go_wp2_with fail
         refine hcall.mono ?_
         rintro r w1 ⟨rfl, d1, hz1, hl1, S2'⟩
         have S2 : Aside (SWK encF k w0 blk off d1 w1) := S2'
         have L1 : Aside (d1.toList = A ++ X1 ++ Y1 ++ X2 ++ Y2 ++ B) := hl1
         clear hcall hl1 S2'
         have hcall := HIH.out a p mid d1 A X1 Y1 (X2 ++ Y2 ++ B) _ (by omega) (by omega) S2.out hs1.1 hs1.2 (by omega) ⟨by rw [L1.out]; simp only [List.append_assoc], LN.out.2.2.2.2, by have := LN.out; omega, by have := LN.out; omega, ORD.out.1.left, ORD.out.2.1.left⟩
         rw [hz1] at hcall
         clear S2
         go_wp2_with fail
         refine hcall.mono ?_
         rintro r w2 ⟨rfl, d2, hz2, ⟨Z1, hl2, hZ1, hst1⟩, S3'⟩
         have S3 : Aside (SWK encF k w0 blk off d2 w2) := S3'
         have hzl := half_len L1.out hl2 (by omega)
         have L2 : Aside (d2.toList = A ++ Z1 ++ X2 ++ Y2 ++ B ∧ Z1.length = X1.length + Y1.length ∧ Srt Z1 ∧ StbF (X1 ++ Y1) Z1) := ⟨by rw [hl2]; simp only [List.append_assoc], hzl, hZ1, hst1⟩
         clear hcall hl2 hZ1 hst1 S3' hzl
         have L3 : Aside (SyE A (X1 ++ X2) (Y1 ++ Y2) B d2) := sym_end ORD.out.1 ORD.out.2.1 ORD.out.2.2.1 ORD.out.2.2.2 L2.out.2.2 ⟨half_same (by have := LN.out; omega) ORD.out.1.right ORD.out.2.1.right, StbF.refl _⟩ (by rw [L2.out.1]; simp only [List.append_assoc])
         go_wp2_with fail
         go_end0
         exact ⟨rfl, d2, by omega, L3.out, S3.out⟩)
    ·by_cases hs1w : a < p
     ·have hs1y : (a : Int) < (p : Int) := by omega
      have hs1z : ¬ (p : Int) < (mid : Int) := by omega
      by_cases hsb : mid < e ∧ e < b
      ·have hsby : (mid : Int) < (e : Int) := by omega
       have hsbz : (e : Int) < (b : Int) := by omega
       first
        | (exfalso; omega)
        | (
         have hcall := sw_rotate L g cb blk off cap p m e d0 d (A ++ X1 ++ Y1 ++ X2 ++ Y2 ++ B) w0 wr R hs S1.out hr.1 hr.2 (by omega) (by omega) ⟨A ++ X1, X2, Y1, Y2 ++ B, by rw [L0.out]; simp only [List.append_assoc], LN.out.2.1.symm, LN.out.2.2.1.symm, by have := LN.out; simp; omega, by simp only [List.append_assoc]⟩
         clear S1
         go_wp2_with fail
         refine hcall.mono ?_
         rintro r w1 ⟨rfl, d1, hz1, hl1, S2'⟩
         have S2 : Aside (SWK encF k w0 blk off d1 w1) := S2'
         have L1 : Aside (d1.toList = A ++ X1 ++ Y1 ++ X2 ++ Y2 ++ B) := hl1
         clear hcall hl1 S2'
         have L2 : Aside (d1.toList = A ++ (X1 ++ Y1) ++ X2 ++ Y2 ++ B ∧ (X1 ++ Y1).length = X1.length + Y1.length ∧ Srt (X1 ++ Y1) ∧ StbF (X1 ++ Y1) (X1 ++ Y1)) := ⟨by rw [L1.out]; simp only [List.append_assoc], List.length_append, half_same (by have := LN.out; omega) ORD.out.1.left ORD.out.2.1.left, StbF.refl _⟩
         have hzd : d1.size = d.size := by omega
         have hcall := HIH.out mid e b d1 (A ++ (X1 ++ Y1)) X2 Y2 B _ (by omega) (by omega) S2.out hsb.1 hsb.2 (by omega) ⟨L2.out.1, by have := LN.out; have := L2.out.2.1; rw [List.length_append]; omega, by have := LN.out; omega, by have := LN.out; omega, ORD.out.1.right, ORD.out.2.1.right⟩
         rw [hzd] at hcall
         clear S2
         go_wp2_with fail
         refine hcall.mono ?_
         rintro r w3 ⟨rfl, d3, hz3, ⟨Z2, hl3, hZ2, hst2⟩, S4'⟩
         have S4 : Aside (SWK encF k w0 blk off d3 w3) := S4'
         have L3 : Aside (SyE A (X1 ++ X2) (Y1 ++ Y2) B d3) := sym_end ORD.out.1 ORD.out.2.1 ORD.out.2.2.1 ORD.out.2.2.2 L2.out.2.2 ⟨hZ2, hst2⟩ hl3
         clear hcall hl3 hZ2 hst2 S4'
         go_wp2_with fail
         go_end0
         exact ⟨rfl, d3, by omega, L3.out, S4.out⟩)
      ·by_cases hsbw : mid < e
       ·have hsby : (mid : Int) < (e : Int) := by omega
        have hsbz : ¬ (e : Int) < (b : Int) := by omega
        first
         | (exfalso; omega)
         | (
          have hcall := sw_rotate L g cb blk off cap p m e d0 d (A ++ X1 ++ Y1 ++ X2 ++ Y2 ++ B) w0 wr R hs S1.out hr.1 hr.2 (by omega) (by omega) ⟨A ++ X1, X2, Y1, Y2 ++ B, by rw [L0.out]; simp only [List.append_assoc], LN.out.2.1.symm, LN.out.2.2.1.symm, by have := LN.out; simp; omega, by simp only [List.append_assoc]⟩
          clear S1
          go_wp2_with fail
          refine hcall.mono ?_
          rintro r w1 ⟨rfl, d1, hz1, hl1, S2'⟩
          have S2 : Aside (SWK encF k w0 blk off d1 w1) := S2'
          have L1 : Aside (d1.toList = A ++ X1 ++ Y1 ++ X2 ++ Y2 ++ B) := hl1
          clear hcall hl1 S2'
          have L2 : Aside (d1.toList = A ++ (X1 ++ Y1) ++ X2 ++ Y2 ++ B ∧ (X1 ++ Y1).length = X1.length + Y1.length ∧ Srt (X1 ++ Y1) ∧ StbF (X1 ++ Y1) (X1 ++ Y1)) := ⟨by rw [L1.out]; simp only [List.append_assoc], List.length_append, half_same (by have := LN.out; omega) ORD.out.1.left ORD.out.2.1.left, StbF.refl _⟩
          have L3 : Aside (SyE A (X1 ++ X2) (Y1 ++ Y2) B d1) := sym_end ORD.out.1 ORD.out.2.1 ORD.out.2.2.1 ORD.out.2.2.2 L2.out.2.2 ⟨half_same (by have := LN.out; omega) ORD.out.1.right ORD.out.2.1.right, StbF.refl _⟩ (by rw [L2.out.1]; simp only [List.append_assoc])
          go_wp2_with fail
          go_end0
          exact ⟨rfl, d1, by omega, L3.out, S2.out⟩)
       ·have hsby : ¬ (mid : Int) < (e : Int) := by omega
        first
         | (exfalso; omega)
         | (
          have hcall := sw_rotate L g cb blk off cap p m e d0 d (A ++ X1 ++ Y1 ++ X2 ++ Y2 ++ B) w0 wr R hs S1.out hr.1 hr.2 (by omega) (by omega) ⟨A ++ X1, X2, Y1, Y2 ++ B, by rw [L0.out]; simp only [List.append_assoc], LN.out.2.1.symm, LN.out.2.2.1.symm, by have := LN.out; simp; omega, by simp only [List.append_assoc]⟩
          clear S1
          go_wp2_with fail
          refine hcall.mono ?_
          rintro r w1 ⟨rfl, d1, hz1, hl1, S2'⟩
          have S2 : Aside (SWK encF k w0 blk off d1 w1) := S2'
          have L1 : Aside (d1.toList = A ++ X1 ++ Y1 ++ X2 ++ Y2 ++ B) := hl1
          clear hcall hl1 S2'
          have L2 : Aside (d1.toList = A ++ (X1 ++ Y1) ++ X2 ++ Y2 ++ B ∧ (X1 ++ Y1).length = X1.length + Y1.length ∧ Srt (X1 ++ Y1) ∧ StbF (X1 ++ Y1) (X1 ++ Y1)) := ⟨by rw [L1.out]; simp only [List.append_assoc], List.length_append, half_same (by have := LN.out; omega) ORD.out.1.left ORD.out.2.1.left, StbF.refl _⟩
          have L3 : Aside (SyE A (X1 ++ X2) (Y1 ++ Y2) B d1) := sym_end ORD.out.1 ORD.out.2.1 ORD.out.2.2.1 ORD.out.2.2.2 L2.out.2.2 ⟨half_same (by have := LN.out; omega) ORD.out.1.right ORD.out.2.1.right, StbF.refl _⟩ (by rw [L2.out.1]; simp only [List.append_assoc])
          go_wp2_with fail
          go_end0
          exact ⟨rfl, d1, by omega, L3.out, S2.out⟩)
     ·have hs1y : ¬ (a : Int) < (p : Int) := by omega
      by_cases hsb : mid < e ∧ e < b
      ·have hsby : (mid : Int) < (e : Int) := by omega
       have hsbz : (e : Int) < (b : Int) := by omega
       first
        | (exfalso; omega)
        | (
         have hcall := sw_rotate L g cb blk off cap p m e d0 d (A ++ X1 ++ Y1 ++ X2 ++ Y2 ++ B) w0 wr R hs S1.out hr.1 hr.2 (by omega) (by omega) ⟨A ++ X1, X2, Y1, Y2 ++ B, by rw [L0.out]; simp only [List.append_assoc], LN.out.2.1.symm, LN.out.2.2.1.symm, by have := LN.out; simp; omega, by simp only [List.append_assoc]⟩
         clear S1
         go_wp2_with fail
         refine hcall.mono ?_
         rintro r w1 ⟨rfl, d1, hz1, hl1, S2'⟩
         have S2 : Aside (SWK encF k w0 blk off d1 w1) := S2'
         have L1 : Aside (d1.toList = A ++ X1 ++ Y1 ++ X2 ++ Y2 ++ B) := hl1
         clear hcall hl1 S2'
         have L2 : Aside (d1.toList = A ++ (X1 ++ Y1) ++ X2 ++ Y2 ++ B ∧ (X1 ++ Y1).length = X1.length + Y1.length ∧ Srt (X1 ++ Y1) ∧ StbF (X1 ++ Y1) (X1 ++ Y1)) := ⟨by rw [L1.out]; simp only [List.append_assoc], List.length_append, half_same (by have := LN.out; omega) ORD.out.1.left ORD.out.2.1.left, StbF.refl _⟩
         have hzd : d1.size = d.size := by omega
         have hcall := HIH.out mid e b d1 (A ++ (X1 ++ Y1)) X2 Y2 B _ (by omega) (by omega) S2.out hsb.1 hsb.2 (by omega) ⟨L2.out.1, by have := LN.out; have := L2.out.2.1; rw [List.length_append]; omega, by have := LN.out; omega, by have := LN.out; omega, ORD.out.1.right, ORD.out.2.1.right⟩
         rw [hzd] at hcall
         clear S2
         go_wp2_with fail
         refine hcall.mono ?_
         rintro r w3 ⟨rfl, d3, hz3, ⟨Z2, hl3, hZ2, hst2⟩, S4'⟩
         have S4 : Aside (SWK encF k w0 blk off d3 w3) := S4'
         have L3 : Aside (SyE A (X1 ++ X2) (Y1 ++ Y2) B d3) := sym_end ORD.out.1 ORD.out.2.1 ORD.out.2.2.1 ORD.out.2.2.2 L2.out.2.2 ⟨hZ2, hst2⟩ hl3
         clear hcall hl3 hZ2 hst2 S4'
         go_wp2_with fail
         go_end0
         exact ⟨rfl, d3, by omega, L3.out, S4.out⟩)
      ·by_cases hsbw : mid < e
       ·have hsby : (mid : Int) < (e : Int) := by omega
        have hsbz : ¬ (e : Int) < (b : Int) := by omega
        first
         | (exfalso; omega)
         | (
          have hcall := sw_rotate L g cb blk off cap p m e d0 d (A ++ X1 ++ Y1 ++ X2 ++ Y2 ++ B) w0 wr R hs S1.out hr.1 hr.2 (by omega) (by omega) ⟨A ++ X1, X2, Y1, Y2 ++ B, by rw [L0.out]; simp only [List.append_assoc], LN.out.2.1.symm, LN.out.2.2.1.symm, by have := LN.out; simp; omega, by simp only [List.append_assoc]⟩
          clear S1
          go_wp2_with fail
          refine hcall.mono ?_
          rintro r w1 ⟨rfl, d1, hz1, hl1, S2'⟩
          have S2 : Aside (SWK encF k w0 blk off d1 w1) := S2'
          have L1 : Aside (d1.toList = A ++ X1 ++ Y1 ++ X2 ++ Y2 ++ B) := hl1
          clear hcall hl1 S2'
          have L2 : Aside (d1.toList = A ++ (X1 ++ Y1) ++ X2 ++ Y2 ++ B ∧ (X1 ++ Y1).length = X1.length + Y1.length ∧ Srt (X1 ++ Y1) ∧ StbF (X1 ++ Y1) (X1 ++ Y1)) := ⟨by rw [L1.out]; simp only [List.append_assoc], List.length_append, half_same (by have := LN.out; omega) ORD.out.1.left ORD.out.2.1.left, StbF.refl _⟩
          have L3 : Aside (SyE A (X1 ++ X2) (Y1 ++ Y2) B d1) := sym_end ORD.out.1 ORD.out.2.1 ORD.out.2.2.1 ORD.out.2.2.2 L2.out.2.2 ⟨half_same (by have := LN.out; omega) ORD.out.1.right ORD.out.2.1.right, StbF.refl _⟩ (by rw [L2.out.1]; simp only [List.append_assoc])
          go_wp2_with fail
          go_end0
          exact ⟨rfl, d1, by omega, L3.out, S2.out⟩)
       ·have hsby : ¬ (mid : Int) < (e : Int) := by omega
        first
         | (exfalso; omega)
         | (
          have hcall := sw_rotate L g cb blk off cap p m e d0 d (A ++ X1 ++ Y1 ++ X2 ++ Y2 ++ B) w0 wr R hs S1.out hr.1 hr.2 (by omega) (by omega) ⟨A ++ X1, X2, Y1, Y2 ++ B, by rw [L0.out]; simp only [List.append_assoc], LN.out.2.1.symm, LN.out.2.2.1.symm, by have := LN.out; simp; omega, by simp only [List.append_assoc]⟩
          clear S1
          go_wp2_with fail
          refine hcall.mono ?_
          rintro r w1 ⟨rfl, d1, hz1, hl1, S2'⟩
          have S2 : Aside (SWK encF k w0 blk off d1 w1) := S2'
          have L1 : Aside (d1.toList = A ++ X1 ++ Y1 ++ X2 ++ Y2 ++ B) := hl1
          clear hcall hl1 S2'
          have L2 : Aside (d1.toList = A ++ (X1 ++ Y1) ++ X2 ++ Y2 ++ B ∧ (X1 ++ Y1).length = X1.length + Y1.length ∧ Srt (X1 ++ Y1) ∧ StbF (X1 ++ Y1) (X1 ++ Y1)) := ⟨by rw [L1.out]; simp only [List.append_assoc], List.length_append, half_same (by have := LN.out; omega) ORD.out.1.left ORD.out.2.1.left, StbF.refl _⟩
          have L3 : Aside (SyE A (X1 ++ X2) (Y1 ++ Y2) B d1) := sym_end ORD.out.1 ORD.out.2.1 ORD.out.2.2.1 ORD.out.2.2.2 L2.out.2.2 ⟨half_same (by have := LN.out; omega) ORD.out.1.right ORD.out.2.1.right, StbF.refl _⟩ (by rw [L2.out.1]; simp only [List.append_assoc])
          go_wp2_with fail
          go_end0
          exact ⟨rfl, d1, by omega, L3.out, S2.out⟩)
   ·by_cases hrw : p < m
    ·have hry : (p : Int) < (m : Int) := by omega
     have hrz : ¬ (m : Int) < (e : Int) := by omega
     by_cases hs1 : a < p ∧ p < mid
     ·have hs1y : (a : Int) < (p : Int) := by omega
      have hs1z : (p : Int) < (mid : Int) := by omega
      by_cases hsb : mid < e ∧ e < b
      ·have hsby : (mid : Int) < (e : Int) := by omega
       have hsbz : (e : Int) < (b : Int) := by omega
       first
        | (exfalso; omega)
        | (
         have L1 : Aside (d.toList = A ++ X1 ++ Y1 ++ X2 ++ Y2 ++ B) := L0.out.trans (cross_same (by have := LN.out; omega))
         have hcall := HIH.out a p mid d A X1 Y1 (X2 ++ Y2 ++ B) _ (by omega) (by omega) S1.out hs1.1 hs1.2 (by omega) ⟨by rw [L1.out]; simp only [List.append_assoc], LN.out.2.2.2.2, by have := LN.out; omega, by have := LN.out; omega, ORD.out.1.left, ORD.out.2.1.left⟩
         clear S1
         go_wp2_with fail
         refine hcall.mono ?_
         rintro r w2 ⟨rfl, d2, hz2, ⟨Z1, hl2, hZ1, hst1⟩, S3'⟩
         have S3 : Aside (SWK encF k w0 blk off d2 w2) := S3'
         have hzl := half_len L1.out hl2 (by omega)
         have L2 : Aside (d2.toList = A ++ Z1 ++ X2 ++ Y2 ++ B ∧ Z1.length = X1.length + Y1.length ∧ Srt Z1 ∧ StbF (X1 ++ Y1) Z1) := ⟨by rw [hl2]; simp only [List.append_assoc], hzl, hZ1, hst1⟩
         clear hcall hl2 hZ1 hst1 S3' hzl
         have hzd : d2.size = d.size := by omega
         have hcall := HIH.out mid e b d2 (A ++ Z1) X2 Y2 B _ (by omega) (by omega) S3.out hsb.1 hsb.2 (by omega) ⟨L2.out.1, by have := LN.out; have := L2.out.2.1; rw [List.length_append]; omega, by have := LN.out; omega, by have := LN.out; omega, ORD.out.1.right, ORD.out.2.1.right⟩
         rw [hzd] at hcall
         clear S3
         go_wp2_with fail
         refine hcall.mono ?_
         rintro r w3 ⟨rfl, d3, hz3, ⟨Z2, hl3, hZ2, hst2⟩, S4'⟩
         have S4 : Aside (SWK encF k w0 blk off d3 w3) := S4'
         have L3 : Aside (SyE A (X1 ++ X2) (Y1 ++ Y2) B d3) := sym_end ORD.out.1 ORD.out.2.1 ORD.out.2.2.1 ORD.out.2.2.2 L2.out.2.2 ⟨hZ2, hst2⟩ hl3
         clear hcall hl3 hZ2 hst2 S4'
         go_wp2_with fail
         go_end0
         exact ⟨rfl, d3, by omega, L3.out, S4.out⟩)
      ·by_cases hsbw : mid < e
       ·have hsby : (mid : Int) < (e : Int) := by omega
        have hsbz : ¬ (e : Int) < (b : Int) := by omega
        first
         | (exfalso; omega)
         | (
          have L1 : Aside (d.toList = A ++ X1 ++ Y1 ++ X2 ++ Y2 ++ B) := L0.out.trans (cross_same (by have := LN.out; omega))
          have hcall := HIH.out a p mid d A X1 Y1 (X2 ++ Y2 ++ B) _ (by omega) (by omega) S1.out hs1.1 hs1.2 (by omega) ⟨by rw [L1.out]; simp only [List.append_assoc], LN.out.2.2.2.2, by have := LN.out; omega, by have := LN.out; omega, ORD.out.1.left, ORD.out.2.1.left⟩
          clear S1
          go_wp2_with fail
          refine hcall.mono ?_
          rintro r w2 ⟨rfl, d2, hz2, ⟨Z1, hl2, hZ1, hst1⟩, S3'⟩
          have S3 : Aside (SWK encF k w0 blk off d2 w2) := S3'
          have hzl := half_len L1.out hl2 (by omega)
          have L2 : Aside (d2.toList = A ++ Z1 ++ X2 ++ Y2 ++ B ∧ Z1.length = X1.length + Y1.length ∧ Srt Z1 ∧ StbF (X1 ++ Y1) Z1) := ⟨by rw [hl2]; simp only [List.append_assoc], hzl, hZ1, hst1⟩
          clear hcall hl2 hZ1 hst1 S3' hzl
          have L3 : Aside (SyE A (X1 ++ X2) (Y1 ++ Y2) B d2) := sym_end ORD.out.1 ORD.out.2.1 ORD.out.2.2.1 ORD.out.2.2.2 L2.out.2.2 ⟨half_same (by have := LN.out; omega) ORD.out.1.right ORD.out.2.1.right, StbF.refl _⟩ (by rw [L2.out.1]; simp only [List.append_assoc])
          go_wp2_with fail
          go_end0
          exact ⟨rfl, d2, by omega, L3.out, S3.out⟩)
       ·have hsby : ¬ (mid : Int) < (e : Int) := by omega
        first
         | (exfalso; omega)
         | (
          have L1 : Aside (d.toList = A ++ X1 ++ Y1 ++ X2 ++ Y2 ++ B) := L0.out.trans (cross_same (by have := LN.out; omega))
          have hcall := HIH.out a p mid d A X1 Y1 (X2 ++ Y2 ++ B) _ (by omega) (by omega) S1.out hs1.1 hs1.2 (by omega) ⟨by rw [L1.out]; simp only [List.append_assoc], LN.out.2.2.2.2, by have := LN.out; omega, by have := LN.out; omega, ORD.out.1.left, ORD.out.2.1.left⟩
          clear S1
          go_wp2_with fail
          refine hcall.mono ?_
          rintro r w2 ⟨rfl, d2, hz2, ⟨Z1, hl2, hZ1, hst1⟩, S3'⟩
          have S3 : Aside (SWK encF k w0 blk off d2 w2) := S3'
          have hzl := half_len L1.out hl2 (by omega)
          have L2 : Aside (d2.toList = A ++ Z1 ++ X2 ++ Y2 ++ B ∧ Z1.length = X1.length + Y1.length ∧ Srt Z1 ∧ StbF (X1 ++ Y1) Z1) := ⟨by rw [hl2]; simp only [List.append_assoc], hzl, hZ1, hst1⟩
          clear hcall hl2 hZ1 hst1 S3' hzl
          have L3 : Aside (SyE A (X1 ++ X2) (Y1 ++ Y2) B d2) := sym_end ORD.out.1 ORD.out.2.1 ORD.out.2.2.1 ORD.out.2.2.2 L2.out.2.2 ⟨half_same (by have := LN.out; omega) ORD.out.1.right ORD.out.2.1.right, StbF.refl _⟩ (by rw [L2.out.1]; simp only [List.append_assoc])
          go_wp2_with fail
          go_end0
          exact ⟨rfl, d2, by omega, L3.out, S3.out⟩)
     ·by_cases hs1w : a < p
      ·have hs1y : (a : Int) < (p : Int) := by omega
       have hs1z : ¬ (p : Int) < (mid : Int) := by omega
       by_cases hsb : mid < e ∧ e < b
       ·have hsby : (mid : Int) < (e : Int) := by omega
        have hsbz : (e : Int) < (b : Int) := by omega
        first
         | (exfalso; omega)
         | (
          have L1 : Aside (d.toList = A ++ X1 ++ Y1 ++ X2 ++ Y2 ++ B) := L0.out.trans (cross_same (by have := LN.out; omega))
          have L2 : Aside (d.toList = A ++ (X1 ++ Y1) ++ X2 ++ Y2 ++ B ∧ (X1 ++ Y1).length = X1.length + Y1.length ∧ Srt (X1 ++ Y1) ∧ StbF (X1 ++ Y1) (X1 ++ Y1)) := ⟨by rw [L1.out]; simp only [List.append_assoc], List.length_append, half_same (by have := LN.out; omega) ORD.out.1.left ORD.out.2.1.left, StbF.refl _⟩
          have hzd : d.size = d.size := by omega
          have hcall := HIH.out mid e b d (A ++ (X1 ++ Y1)) X2 Y2 B _ (by omega) (by omega) S1.out hsb.1 hsb.2 (by omega) ⟨L2.out.1, by have := LN.out; have := L2.out.2.1; rw [List.length_append]; omega, by have := LN.out; omega, by have := LN.out; omega, ORD.out.1.right, ORD.out.2.1.right⟩
          clear S1
          go_wp2_with fail
          refine hcall.mono ?_
          rintro r w3 ⟨rfl, d3, hz3, ⟨Z2, hl3, hZ2, hst2⟩, S4'⟩
          have S4 : Aside (SWK encF k w0 blk off d3 w3) := S4'
          have L3 : Aside (SyE A (X1 ++ X2) (Y1 ++ Y2) B d3) := sym_end ORD.out.1 ORD.out.2.1 ORD.out.2.2.1 ORD.out.2.2.2 L2.out.2.2 ⟨hZ2, hst2⟩ hl3
          clear hcall hl3 hZ2 hst2 S4'
          go_wp2_with fail
          go_end0
          exact ⟨rfl, d3, by omega, L3.out, S4.out⟩)
       ·by_cases hsbw : mid < e
        ·have hsby : (mid : Int) < (e : Int) := by omega
         have hsbz : ¬ (e : Int) < (b : Int) := by omega
         first
          | (exfalso; omega)
          | (
           have L1 : Aside (d.toList = A ++ X1 ++ Y1 ++ X2 ++ Y2 ++ B) := L0.out.trans (cross_same (by have := LN.out; omega))
           have L2 : Aside (d.toList = A ++ (X1 ++ Y1) ++ X2 ++ Y2 ++ B ∧ (X1 ++ Y1).length = X1.length + Y1.length ∧ Srt (X1 ++ Y1) ∧ StbF (X1 ++ Y1) (X1 ++ Y1)) := ⟨by rw [L1.out]; simp only [List.append_assoc], List.length_append, half_same (by have := LN.out; omega) ORD.out.1.left ORD.out.2.1.left, StbF.refl _⟩
           have L3 : Aside (SyE A (X1 ++ X2) (Y1 ++ Y2) B d) := sym_end ORD.out.1 ORD.out.2.1 ORD.out.2.2.1 ORD.out.2.2.2 L2.out.2.2 ⟨half_same (by have := LN.out; omega) ORD.out.1.right ORD.out.2.1.right, StbF.refl _⟩ (by rw [L2.out.1]; simp only [List.append_assoc])
           go_wp2_with fail
           go_end0
           exact ⟨rfl, d, by omega, L3.out, S1.out⟩)
        ·have hsby : ¬ (mid : Int) < (e : Int) := by omega
         first
          | (exfalso; omega)
          | (
           have L1 : Aside (d.toList = A ++ X1 ++ Y1 ++ X2 ++ Y2 ++ B) := L0.out.trans (cross_same (by have := LN.out; omega))
           have L2 : Aside (d.toList = A ++ (X1 ++ Y1) ++ X2 ++ Y2 ++ B ∧ (X1 ++ Y1).length = X1.length + Y1.length ∧ Srt (X1 ++ Y1) ∧ StbF (X1 ++ Y1) (X1 ++ Y1)) := ⟨by rw [L1.out]; simp only [List.append_assoc], List.length_append, half_same (by have := LN.out; omega) ORD.out.1.left ORD.out.2.1.left, StbF.refl _⟩
           have L3 : Aside (SyE A (X1 ++ X2) (Y1 ++ Y2) B d) := sym_end ORD.out.1 ORD.out.2.1 ORD.out.2.2.1 ORD.out.2.2.2 L2.out.2.2 ⟨half_same (by have := LN.out; omega) ORD.out.1.right ORD.out.2.1.right, StbF.refl _⟩ (by rw [L2.out.1]; simp only [List.append_assoc])
           go_wp2_with fail
           go_end0
           exact ⟨rfl, d, by omega, L3.out, S1.out⟩)
      ·have hs1y : ¬ (a : Int) < (p : Int) := by omega
       by_cases hsb : mid < e ∧ e < b
       ·have hsby : (mid : Int) < (e : Int) := by omega
        have hsbz : (e : Int) < (b : Int) := by omega
        first
         | (exfalso; omega)
         | (
          have L1 : Aside (d.toList = A ++ X1 ++ Y1 ++ X2 ++ Y2 ++ B) := L0.out.trans (cross_same (by have := LN.out; omega))
          have L2 : Aside (d.toList = A ++ (X1 ++ Y1) ++ X2 ++ Y2 ++ B ∧ (X1 ++ Y1).length = X1.length + Y1.length ∧ Srt (X1 ++ Y1) ∧ StbF (X1 ++ Y1) (X1 ++ Y1)) := ⟨by rw [L1.out]; simp only [List.append_assoc], List.length_append, half_same (by have := LN.out; omega) ORD.out.1.left ORD.out.2.1.left, StbF.refl _⟩
          have hzd : d.size = d.size := by omega
          have hcall := HIH.out mid e b d (A ++ (X1 ++ Y1)) X2 Y2 B _ (by omega) (by omega) S1.out hsb.1 hsb.2 (by omega) ⟨L2.out.1, by have := LN.out; have := L2.out.2.1; rw [List.length_append]; omega, by have := LN.out; omega, by have := LN.out; omega, ORD.out.1.right, ORD.out.2.1.right⟩
          clear S1
          go_wp2_with fail
          refine hcall.mono ?_
          rintro r w3 ⟨rfl, d3, hz3, ⟨Z2, hl3, hZ2, hst2⟩, S4'⟩
          have S4 : Aside (SWK encF k w0 blk off d3 w3) := S4'
          have L3 : Aside (SyE A (X1 ++ X2) (Y1 ++ Y2) B d3) := sym_end ORD.out.1 ORD.out.2.1 ORD.out.2.2.1 ORD.out.2.2.2 L2.out.2.2 ⟨hZ2, hst2⟩ hl3
          clear hcall hl3 hZ2 hst2 S4'
          go_wp2_with fail
          go_end0
          exact ⟨rfl, d3, by omega, L3.out, S4.out⟩)
       ·by_cases hsbw : mid < e
        ·have hsby : (mid : Int) < (e : Int) := by omega
         have hsbz : ¬ (e : Int) < (b : Int) := by omega
         first
          | (exfalso; omega)
          | (
           have L1 : Aside (d.toList = A ++ X1 ++ Y1 ++ X2 ++ Y2 ++ B) := L0.out.trans (cross_same (by have := LN.out; omega))
           have L2 : Aside (d.toList = A ++ (X1 ++ Y1) ++ X2 ++ Y2 ++ B ∧ (X1 ++ Y1).length = X1.length + Y1.length ∧ Srt (X1 ++ Y1) ∧ StbF (X1 ++ Y1) (X1 ++ Y1)) := ⟨by rw [L1.out]; simp only [List.append_assoc], List.length_append, half_same (by have := LN.out; omega) ORD.out.1.left ORD.out.2.1.left, StbF.refl _⟩
           have L3 : Aside (SyE A (X1 ++ X2) (Y1 ++ Y2) B d) := sym_end ORD.out.1 ORD.out.2.1 ORD.out.2.2.1 ORD.out.2.2.2 L2.out.2.2 ⟨half_same (by have := LN.out; omega) ORD.out.1.right ORD.out.2.1.right, StbF.refl _⟩ (by rw [L2.out.1]; simp only [List.append_assoc])
           go_wp2_with fail
           go_end0
           exact ⟨rfl, d, by omega, L3.out, S1.out⟩)
        ·have hsby : ¬ (mid : Int) < (e : Int) := by omega
         first
          | (exfalso; omega)
          | (
           have L1 : Aside (d.toList = A ++ X1 ++ Y1 ++ X2 ++ Y2 ++ B) := L0.out.trans (cross_same (by have := LN.out; omega))
           have L2 : Aside (d.toList = A ++ (X1 ++ Y1) ++ X2 ++ Y2 ++ B ∧ (X1 ++ Y1).length = X1.length + Y1.length ∧ Srt (X1 ++ Y1) ∧ StbF (X1 ++ Y1) (X1 ++ Y1)) := ⟨by rw [L1.out]; simp only [List.append_assoc], List.length_append, half_same (by have := LN.out; omega) ORD.out.1.left ORD.out.2.1.left, StbF.refl _⟩
           have L3 : Aside (SyE A (X1 ++ X2) (Y1 ++ Y2) B d) := sym_end ORD.out.1 ORD.out.2.1 ORD.out.2.2.1 ORD.out.2.2.2 L2.out.2.2 ⟨half_same (by have := LN.out; omega) ORD.out.1.right ORD.out.2.1.right, StbF.refl _⟩ (by rw [L2.out.1]; simp only [List.append_assoc])
           go_wp2_with fail
           go_end0
           exact ⟨rfl, d, by omega, L3.out, S1.out⟩)
    ·have hry : ¬ (p : Int) < (m : Int) := by omega
     by_cases hs1 : a < p ∧ p < mid
     ·have hs1y : (a : Int) < (p : Int) := by omega
      have hs1z : (p : Int) < (mid : Int) := by omega
      by_cases hsb : mid < e ∧ e < b
      ·have hsby : (mid : Int) < (e : Int) := by omega
       have hsbz : (e : Int) < (b : Int) := by omega
       first
        | (exfalso; omega)
        | (
         have L1 : Aside (d.toList = A ++ X1 ++ Y1 ++ X2 ++ Y2 ++ B) := L0.out.trans (cross_same (by have := LN.out; omega))
         have hcall := HIH.out a p mid d A X1 Y1 (X2 ++ Y2 ++ B) _ (by omega) (by omega) S1.out hs1.1 hs1.2 (by omega) ⟨by rw [L1.out]; simp only [List.append_assoc], LN.out.2.2.2.2, by have := LN.out; omega, by have := LN.out; omega, ORD.out.1.left, ORD.out.2.1.left⟩
         clear S1
         go_wp2_with fail
         refine hcall.mono ?_
         rintro r w2 ⟨rfl, d2, hz2, ⟨Z1, hl2, hZ1, hst1⟩, S3'⟩
         have S3 : Aside (SWK encF k w0 blk off d2 w2) := S3'
         have hzl := half_len L1.out hl2 (by omega)
         have L2 : Aside (d2.toList = A ++ Z1 ++ X2 ++ Y2 ++ B ∧ Z1.length = X1.length + Y1.length ∧ Srt Z1 ∧ StbF (X1 ++ Y1) Z1) := ⟨by rw [hl2]; simp only [List.append_assoc], hzl, hZ1, hst1⟩
         clear hcall hl2 hZ1 hst1 S3' hzl
         have hzd : d2.size = d.size := by omega
         have hcall := HIH.out mid e b d2 (A ++ Z1) X2 Y2 B _ (by omega) (by omega) S3.out hsb.1 hsb.2 (by omega) ⟨L2.out.1, by have := LN.out; have := L2.out.2.1; rw [List.length_append]; omega, by have := LN.out; omega, by have := LN.out; omega, ORD.out.1.right, ORD.out.2.1.right⟩
         rw [hzd] at hcall
         clear S3
         go_wp2_with fail
         refine hcall.mono ?_
         rintro r w3 ⟨rfl, d3, hz3, ⟨Z2, hl3, hZ2, hst2⟩, S4'⟩
         have S4 : Aside (SWK encF k w0 blk off d3 w3) := S4'
         have L3 : Aside (SyE A (X1 ++ X2) (Y1 ++ Y2) B d3) := sym_end ORD.out.1 ORD.out.2.1 ORD.out.2.2.1 ORD.out.2.2.2 L2.out.2.2 ⟨hZ2, hst2⟩ hl3
         clear hcall hl3 hZ2 hst2 S4'
         go_wp2_with fail
         go_end0
         exact ⟨rfl, d3, by omega, L3.out, S4.out⟩)
      ·by_cases hsbw : mid < e
       ·have hsby : (mid : Int) < (e : Int) := by omega
        have hsbz : ¬ (e : Int) < (b : Int) := by omega
        first
         | (exfalso; omega)
         | (
          have L1 : Aside (d.toList = A ++ X1 ++ Y1 ++ X2 ++ Y2 ++ B) := L0.out.trans (cross_same (by have := LN.out; omega))
          have hcall := HIH.out a p mid d A X1 Y1 (X2 ++ Y2 ++ B) _ (by omega) (by omega) S1.out hs1.1 hs1.2 (by omega) ⟨by rw [L1.out]; simp only [List.append_assoc], LN.out.2.2.2.2, by have := LN.out; omega, by have := LN.out; omega, ORD.out.1.left, ORD.out.2.1.left⟩
          clear S1
          go_wp2_with fail
          refine hcall.mono ?_
          rintro r w2 ⟨rfl, d2, hz2, ⟨Z1, hl2, hZ1, hst1⟩, S3'⟩
          have S3 : Aside (SWK encF k w0 blk off d2 w2) := S3'
          have hzl := half_len L1.out hl2 (by omega)
          have L2 : Aside (d2.toList = A ++ Z1 ++ X2 ++ Y2 ++ B ∧ Z1.length = X1.length + Y1.length ∧ Srt Z1 ∧ StbF (X1 ++ Y1) Z1) := ⟨by rw [hl2]; simp only [List.append_assoc], hzl, hZ1, hst1⟩
          clear hcall hl2 hZ1 hst1 S3' hzl
          have L3 : Aside (SyE A (X1 ++ X2) (Y1 ++ Y2) B d2) := sym_end ORD.out.1 ORD.out.2.1 ORD.out.2.2.1 ORD.out.2.2.2 L2.out.2.2 ⟨half_same (by have := LN.out; omega) ORD.out.1.right ORD.out.2.1.right, StbF.refl _⟩ (by rw [L2.out.1]; simp only [List.append_assoc])
          go_wp2_with fail
          go_end0
          exact ⟨rfl, d2, by omega, L3.out, S3.out⟩)
       ·have hsby : ¬ (mid : Int) < (e : Int) := by omega
        first
         | (exfalso; omega)
         | (
          have L1 : Aside (d.toList = A ++ X1 ++ Y1 ++ X2 ++ Y2 ++ B) := L0.out.trans (cross_same (by have := LN.out; omega))
          have hcall := HIH.out a p mid d A X1 Y1 (X2 ++ Y2 ++ B) _ (by omega) (by omega) S1.out hs1.1 hs1.2 (by omega) ⟨by rw [L1.out]; simp only [List.append_assoc], LN.out.2.2.2.2, by have := LN.out; omega, by have := LN.out; omega, ORD.out.1.left, ORD.out.2.1.left⟩
          clear S1
          go_wp2_with fail
          refine hcall.mono ?_
          rintro r w2 ⟨rfl, d2, hz2, ⟨Z1, hl2, hZ1, hst1⟩, S3'⟩
          have S3 : Aside (SWK encF k w0 blk off d2 w2) := S3'
          have hzl := half_len L1.out hl2 (by omega)
          have L2 : Aside (d2.toList = A ++ Z1 ++ X2 ++ Y2 ++ B ∧ Z1.length = X1.length + Y1.length ∧ Srt Z1 ∧ StbF (X1 ++ Y1) Z1) := ⟨by rw [hl2]; simp only [List.append_assoc], hzl, hZ1, hst1⟩
          clear hcall hl2 hZ1 hst1 S3' hzl
          have L3 : Aside (SyE A (X1 ++ X2) (Y1 ++ Y2) B d2) := sym_end ORD.out.1 ORD.out.2.1 ORD.out.2.2.1 ORD.out.2.2.2 L2.out.2.2 ⟨half_same (by have := LN.out; omega) ORD.out.1.right ORD.out.2.1.right, StbF.refl _⟩ (by rw [L2.out.1]; simp only [List.append_assoc])
          go_wp2_with fail
          go_end0
          exact ⟨rfl, d2, by omega, L3.out, S3.out⟩)
     ·by_cases hs1w : a < p
      ·have hs1y : (a : Int) < (p : Int) := by omega
       have hs1z : ¬ (p : Int) < (mid : Int) := by omega
       by_cases hsb : mid < e ∧ e < b
       ·have hsby : (mid : Int) < (e : Int) := by omega
        have hsbz : (e : Int) < (b : Int) := by omega
        first
         | (exfalso; omega)
         | (
          have L1 : Aside (d.toList = A ++ X1 ++ Y1 ++ X2 ++ Y2 ++ B) := L0.out.trans (cross_same (by have := LN.out; omega))
          have L2 : Aside (d.toList = A ++ (X1 ++ Y1) ++ X2 ++ Y2 ++ B ∧ (X1 ++ Y1).length = X1.length + Y1.length ∧ Srt (X1 ++ Y1) ∧ StbF (X1 ++ Y1) (X1 ++ Y1)) := ⟨by rw [L1.out]; simp only [List.append_assoc], List.length_append, half_same (by have := LN.out; omega) ORD.out.1.left ORD.out.2.1.left, StbF.refl _⟩
          have hzd : d.size = d.size := by omega
          have hcall := HIH.out mid e b d (A ++ (X1 ++ Y1)) X2 Y2 B _ (by omega) (by omega) S1.out hsb.1 hsb.2 (by omega) ⟨L2.out.1, by have := LN.out; have := L2.out.2.1; rw [List.length_append]; omega, by have := LN.out; omega, by have := LN.out; omega, ORD.out.1.right, ORD.out.2.1.right⟩
          clear S1
          go_wp2_with fail
          refine hcall.mono ?_
          rintro r w3 ⟨rfl, d3, hz3, ⟨Z2, hl3, hZ2, hst2⟩, S4'⟩
          have S4 : Aside (SWK encF k w0 blk off d3 w3) := S4'
          have L3 : Aside (SyE A (X1 ++ X2) (Y1 ++ Y2) B d3) := sym_end ORD.out.1 ORD.out.2.1 ORD.out.2.2.1 ORD.out.2.2.2 L2.out.2.2 ⟨hZ2, hst2⟩ hl3
          clear hcall hl3 hZ2 hst2 S4'
          go_wp2_with fail
          go_end0
          exact ⟨rfl, d3, by omega, L3.out, S4.out⟩)
       ·by_cases hsbw : mid < e
        ·have hsby : (mid : Int) < (e : Int) := by omega
         have hsbz : ¬ (e : Int) < (b : Int) := by omega
         first
          | (exfalso; omega)
          | (
           have L1 : Aside (d.toList = A ++ X1 ++ Y1 ++ X2 ++ Y2 ++ B) := L0.out.trans (cross_same (by have := LN.out; omega))
           have L2 : Aside (d.toList = A ++ (X1 ++ Y1) ++ X2 ++ Y2 ++ B ∧ (X1 ++ Y1).length = X1.length + Y1.length ∧ Srt (X1 ++ Y1) ∧ StbF (X1 ++ Y1) (X1 ++ Y1)) := ⟨by rw [L1.out]; simp only [List.append_assoc], List.length_append, half_same (by have := LN.out; omega) ORD.out.1.left ORD.out.2.1.left, StbF.refl _⟩
           have L3 : Aside (SyE A (X1 ++ X2) (Y1 ++ Y2) B d) := sym_end ORD.out.1 ORD.out.2.1 ORD.out.2.2.1 ORD.out.2.2.2 L2.out.2.2 ⟨half_same (by have := LN.out; omega) ORD.out.1.right ORD.out.2.1.right, StbF.refl _⟩ (by rw [L2.out.1]; simp only [List.append_assoc])
           go_wp2_with fail
           go_end0
           exact ⟨rfl, d, by omega, L3.out, S1.out⟩)
        ·have hsby : ¬ (mid : Int) < (e : Int) := by omega
         first
          | (exfalso; omega)
          | (
           have L1 : Aside (d.toList = A ++ X1 ++ Y1 ++ X2 ++ Y2 ++ B) := L0.out.trans (cross_same (by have := LN.out; omega))
           have L2 : Aside (d.toList = A ++ (X1 ++ Y1) ++ X2 ++ Y2 ++ B ∧ (X1 ++ Y1).length = X1.length + Y1.length ∧ Srt (X1 ++ Y1) ∧ StbF (X1 ++ Y1) (X1 ++ Y1)) := ⟨by rw [L1.out]; simp only [List.append_assoc], List.length_append, half_same (by have := LN.out; omega) ORD.out.1.left ORD.out.2.1.left, StbF.refl _⟩
           have L3 : Aside (SyE A (X1 ++ X2) (Y1 ++ Y2) B d) := sym_end ORD.out.1 ORD.out.2.1 ORD.out.2.2.1 ORD.out.2.2.2 L2.out.2.2 ⟨half_same (by have := LN.out; omega) ORD.out.1.right ORD.out.2.1.right, StbF.refl _⟩ (by rw [L2.out.1]; simp only [List.append_assoc])
           go_wp2_with fail
           go_end0
           exact ⟨rfl, d, by omega, L3.out, S1.out⟩)
      ·have hs1y : ¬ (a : Int) < (p : Int) := by omega
       by_cases hsb : mid < e ∧ e < b
       ·have hsby : (mid : Int) < (e : Int) := by omega
        have hsbz : (e : Int) < (b : Int) := by omega
        first
         | (exfalso; omega)
         | (
          have L1 : Aside (d.toList = A ++ X1 ++ Y1 ++ X2 ++ Y2 ++ B) := L0.out.trans (cross_same (by have := LN.out; omega))
          have L2 : Aside (d.toList = A ++ (X1 ++ Y1) ++ X2 ++ Y2 ++ B ∧ (X1 ++ Y1).length = X1.length + Y1.length ∧ Srt (X1 ++ Y1) ∧ StbF (X1 ++ Y1) (X1 ++ Y1)) := ⟨by rw [L1.out]; simp only [List.append_assoc], List.length_append, half_same (by have := LN.out; omega) ORD.out.1.left ORD.out.2.1.left, StbF.refl _⟩
          have hzd : d.size = d.size := by omega
          have hcall := HIH.out mid e b d (A ++ (X1 ++ Y1)) X2 Y2 B _ (by omega) (by omega) S1.out hsb.1 hsb.2 (by omega) ⟨L2.out.1, by have := LN.out; have := L2.out.2.1; rw [List.length_append]; omega, by have := LN.out; omega, by have := LN.out; omega, ORD.out.1.right, ORD.out.2.1.right⟩
          clear S1
          go_wp2_with fail
          refine hcall.mono ?_
          rintro r w3 ⟨rfl, d3, hz3, ⟨Z2, hl3, hZ2, hst2⟩, S4'⟩
          have S4 : Aside (SWK encF k w0 blk off d3 w3) := S4'
          have L3 : Aside (SyE A (X1 ++ X2) (Y1 ++ Y2) B d3) := sym_end ORD.out.1 ORD.out.2.1 ORD.out.2.2.1 ORD.out.2.2.2 L2.out.2.2 ⟨hZ2, hst2⟩ hl3
          clear hcall hl3 hZ2 hst2 S4'
          go_wp2_with fail
          go_end0
          exact ⟨rfl, d3, by omega, L3.out, S4.out⟩)
       ·by_cases hsbw : mid < e
        ·have hsby : (mid : Int) < (e : Int) := by omega
         have hsbz : ¬ (e : Int) < (b : Int) := by omega
         first
          | (exfalso; omega)
          | (
           have L1 : Aside (d.toList = A ++ X1 ++ Y1 ++ X2 ++ Y2 ++ B) := L0.out.trans (cross_same (by have := LN.out; omega))
           have L2 : Aside (d.toList = A ++ (X1 ++ Y1) ++ X2 ++ Y2 ++ B ∧ (X1 ++ Y1).length = X1.length + Y1.length ∧ Srt (X1 ++ Y1) ∧ StbF (X1 ++ Y1) (X1 ++ Y1)) := ⟨by rw [L1.out]; simp only [List.append_assoc], List.length_append, half_same (by have := LN.out; omega) ORD.out.1.left ORD.out.2.1.left, StbF.refl _⟩
           have L3 : Aside (SyE A (X1 ++ X2) (Y1 ++ Y2) B d) := sym_end ORD.out.1 ORD.out.2.1 ORD.out.2.2.1 ORD.out.2.2.2 L2.out.2.2 ⟨half_same (by have := LN.out; omega) ORD.out.1.right ORD.out.2.1.right, StbF.refl _⟩ (by rw [L2.out.1]; simp only [List.append_assoc])
           go_wp2_with fail
           go_end0
           exact ⟨rfl, d, by omega, L3.out, S1.out⟩)
        ·have hsby : ¬ (mid : Int) < (e : Int) := by omega
         first
          | (exfalso; omega)
          | (
           have L1 : Aside (d.toList = A ++ X1 ++ Y1 ++ X2 ++ Y2 ++ B) := L0.out.trans (cross_same (by have := LN.out; omega))
           have L2 : Aside (d.toList = A ++ (X1 ++ Y1) ++ X2 ++ Y2 ++ B ∧ (X1 ++ Y1).length = X1.length + Y1.length ∧ Srt (X1 ++ Y1) ∧ StbF (X1 ++ Y1) (X1 ++ Y1)) := ⟨by rw [L1.out]; simp only [List.append_assoc], List.length_append, half_same (by have := LN.out; omega) ORD.out.1.left ORD.out.2.1.left, StbF.refl _⟩
           have L3 : Aside (SyE A (X1 ++ X2) (Y1 ++ Y2) B d) := sym_end ORD.out.1 ORD.out.2.1 ORD.out.2.2.1 ORD.out.2.2.2 L2.out.2.2 ⟨half_same (by have := LN.out; omega) ORD.out.1.right ORD.out.2.1.right, StbF.refl _⟩ (by rw [L2.out.1]; simp only [List.append_assoc])
           go_wp2_with fail
           go_end0
           exact ⟨rfl, d, by omega, L3.out, S1.out⟩)
/- slices.symMergeCmpFunc at faults: its contract, from its cases. Written by wip/tools/mkfas2.py. -/
theorem sw_sym {P : Program} {k : Nat} (L : Prg P k) (g : Nat) (cb : Array Value) (eg : ∀ args w, (callFunc g args).run P w = .ok (.enter g args) w) (blk off cap : Nat) (d0 : Array Fa) (w0 : World) (hcmp : CmpLays P g cb encF k cfF blk off d0.size w0) (R : RowK encF k w0 blk off d0) :
  ∀ N, SymC P k g cb blk off cap d0 w0 N
 | 0 => fun a m b d A X Y B w hN hs S ham hmb hsz hL => by omega
 | N + 1 => fun a m b d A X Y B w hN hs S ham hmb hsz hL => by
  have IH := sw_sym L g cb eg blk off cap d0 w0 hcmp R N
  by_cases h1 : m = a + 1
  ·exact sw_sym1 L g cb eg blk off cap d0 w0 hcmp R N a m b d A X Y B w IH hN hs S ham hmb hsz hL h1
  ·by_cases h2 : b = m + 1
   ·exact sw_sym2 L g cb eg blk off cap d0 w0 hcmp R N a m b d A X Y B w IH hN hs S ham hmb hsz hL h1 h2
   ·by_cases h3 : (a + b) / 2 < m
    ·exact sw_sym3 L g cb eg blk off cap d0 w0 hcmp R N a m b d A X Y B w IH hN hs S ham hmb hsz hL h1 h2 h3
    ·exact sw_sym4 L g cb eg blk off cap d0 w0 hcmp R N a m b d A X Y B w IH hN hs S ham hmb hsz hL h1 h2 h3
/- slices.SortStableFunc at faults, walked: blocks, each sorted; then merged two by two. -/
inductive RunsI (bs : Nat) : List Fa → Prop
 | last (X : List Fa) : X.length ≤ bs → Srt X → RunsI bs X
 | cons (X R : List Fa) : X.length = bs → Srt X → RunsI bs R → RunsI bs (X ++ R)
inductive PreR (bs : Nat) : List Fa → Prop
 | nil : PreR bs []
 | snoc (A X : List Fa) : PreR bs A → X.length = bs → Srt X → PreR bs (A ++ X)
theorem PreR.runs {bs : Nat} {A : List Fa} (h : PreR bs A) : ∀ T, RunsI bs T → RunsI bs (A ++ T) := by
 induction h with
 | nil => intro T hT; exact hT
 | snoc A X _ hl hs ih =>
  intro T hT
  rw [List.append_assoc]
  exact ih _ (RunsI.cons X T hl hs hT)
theorem RunsI.short {bs : Nat} {R : List Fa} (h : RunsI bs R) (hl : R.length ≤ bs) : Srt R := by
 cases h with
 | last _ _ hs => exact hs
 | cons X R1 hx hs _ =>
  have : R1 = [] := List.eq_nil_of_length_eq_zero (by simp at hl; omega)
  subst this
  simpa using hs
theorem RunsI.cut {bs : Nat} {R : List Fa} (h : RunsI bs R) (hl : bs < R.length) : ∃ X R1, R = X ++ R1 ∧ X.length = bs ∧ Srt X ∧ RunsI bs R1 := by
 cases h with
 | last _ h1 _ => omega
 | cons X R1 hx hs hr => exact ⟨X, R1, rfl, hx, hs, hr⟩
theorem RunsI.two {bs : Nat} {R : List Fa} (h : RunsI bs R) (h1 : 1 ≤ bs) (hl : 2 * bs ≤ R.length) : ∃ X Y R1, R = X ++ Y ++ R1 ∧ X.length = bs ∧ Y.length = bs ∧ Srt X ∧ Srt Y ∧ RunsI bs R1 := by
 obtain ⟨X, R1, rfl, hx, hs, hr⟩ := h.cut (by omega)
 rw [List.length_append] at hl
 by_cases hb : bs < R1.length
 ·obtain ⟨Y, R2, rfl, hy, hs2, hr2⟩ := hr.cut hb
  exact ⟨X, Y, R2, by simp, hx, hy, hs, hs2, hr2⟩
 ·exact ⟨X, R1, [], by simp, hx, by omega, hs, hr.short (by omega), RunsI.last [] (Nat.zero_le _) List.Pairwise.nil⟩
def CmpF (P : Program) (g : Nat) : Prop := ∀ (x y : Fa) (W : World), Calls P g #[.agg (encF x).toArray, .agg (encF y).toArray] W fun e w' => e = .returned (.int .i64 (cfF x y)) ∧ ∃ q os, w' = grow (W.drewN q) os
theorem CmpF.lays {P : Program} {g : Nat} (h : CmpF P g) (k blk off size : Nat) (w : World) : CmpLays P g #[] encF k cfF blk off size w := fun _ _ _ _ x y => h x y _
theorem row4 {w0 : World} {blk off : Nat} {d0 : Array Fa} (hH : HoldsK encF 4 w0 blk off d0) (hb : blk < w0.heap.size) : Go.Proofs.RowK encF 4 w0 blk off d0 := ⟨encF_len, encF_one, hH, hb⟩
theorem fa_ins (g : Nat) (eg : ∀ args w, (callFunc g args).run Tryz.prog w = .ok (.enter g args) w) (hC : CmpF Tryz.prog g) (blk off cap a b : Nat) (d0 d : Array Fa) (A X B : List Fa) (w0 w : World)
  (R : Go.Proofs.RowK encF 4 w0 blk off d0) (hs : d0.size = d.size) (S : SWK encF 4 w0 blk off d w) (hsz : d.size < 4611686018427387904) (h : d.toList = A ++ X ++ B) (ha : a = A.length) (hb : b = A.length + X.length) :
  Calls Tryz.prog 156 #[.slice (some ⟨blk, off, none⟩) d.size cap, .int .i64 a, .int .i64 b, .func (.func g) #[] #[]] w fun e w' =>
   e = .returned (.tuple #[]) ∧ ∃ d' X', d'.size = d.size ∧ d'.toList = A ++ X' ++ B ∧ X'.length = X.length ∧ Srt X' ∧ StbF X X' ∧ SWK encF 4 w0 blk off d' w' := by
 have hz : d.size = A.length + X.length + B.length := by rw [arr_size h]; simp; omega
 have hcall := AnyQ.insertionSortCmpFunc Tryz.ins 4 Tryz.isAgg40 Tryz.sizeOf40 encF encF_len encF_one cfF g #[] blk off cap a b d w eg (hC.lays 4 blk off d.size w) (S.holds R.hblk R.hH hs.symm) (S.lt R.hblk) (by omega) (by omega) hsz
 refine Calls.mono (P := Tryz.prog) (f := 156) hcall ?_
 rintro e w' ⟨rfl, n, os, rfl⟩
 obtain ⟨X', h1, h2, h3, h4⟩ := ins_list h ha hb
 have hz2 := (insertionSort_holds (lt := ltOf cfF) swoF d a b (by omega) (by omega)).1.1
 exact ⟨rfl, _, X', hz2, h1, h2, h3, h4, S.on R.hblk n _ os hz2⟩
def Fst (d dk : Array Fa) (a : Nat) : Prop := ∃ A R, dk.toList = A ++ R ∧ A.length = a ∧ PreR 20 A ∧ StbF d.toList dk.toList
def Snd (d dk : Array Fa) (bs a : Nat) : Prop := ∃ A R, dk.toList = A ++ R ∧ A.length = a ∧ PreR (2 * bs) A ∧ RunsI bs R ∧ StbF d.toList dk.toList
def Alls (d dk : Array Fa) (bs : Nat) : Prop := RunsI bs dk.toList ∧ StbF d.toList dk.toList
theorem StbF.part {A X X' B L : List Fa} (h : StbF L (A ++ X ++ B)) (k : StbF X X') : StbF L (A ++ X' ++ B) := h.trans (((StbF.refl A).app k).app (StbF.refl B))
set_option maxHeartbeats 8000000 in
theorem fa_stable (g : Nat) (eg : ∀ args w, (callFunc g args).run Tryz.prog w = .ok (.enter g args) w) (hC : CmpF Tryz.prog g) (blk off cap : Nat) (d : Array Fa) (w : World) (R : Go.Proofs.RowK encF 4 w blk off d) (hsz : d.size ≤ 4398046510976) :
  Calls Tryz.prog 137 #[.slice (some ⟨blk, off, none⟩) d.size cap, .int .i64 d.size, .func (.func g) #[] #[]] w fun e w' =>
   e = .returned (.tuple #[]) ∧ ∃ d' : Array Fa, d'.size = d.size ∧ Srt d'.toList ∧ StbF d.toList d'.toList ∧ SWK encF 4 w blk off d' w' := by
 have HC := Lib.hid hC
 have HR := Lib.hid R
 have HINS := Lib.hid (fa_ins g eg hC blk off cap)
 have HSYM := Lib.hid (sw_sym prgA g #[] eg blk off cap d w (hC.lays 4 blk off d.size w) R)
 have S0 : Aside (SWK encF 4 w blk off d w) := SWK.start R.hH
 obtain ⟨n, hn⟩ : ∃ n, d.size = n := ⟨_, rfl⟩
 have HN := Lib.hid hn
 have F0 : Hid (Fst d d 0) := ⟨[], d.toList, by simp, rfl, PreR.nil, StbF.refl _⟩
 rw [hn] at hsz ⊢
 clear hC R hn eg
 go_enter Tryz.func137, Tryz.ntmps137
 go_wp2
 go_loopg [7, 8] n (fun kx s7 s8 wr => ∃ (a : Nat) (dk : Array Fa), s7 = .int .i64 a ∧ s8 = .int .i64 (a + 20 : Nat) ∧ a ≤ n ∧ n - a ≤ kx ∧ dk.size = n ∧ Aside (SWK encF 4 w blk off dk wr) ∧ Hid (Fst d dk a))
 case atStart => exact ⟨0, d, rfl, rfl, Nat.zero_le _, Nat.le_refl _, HN.out, S0, F0⟩
 case round =>
  clear S0 F0
  obtain ⟨a, dk, rfl, rfl, ha, hkx, hdk, S1, F1⟩ := hrel
  by_cases hlt : a + 20 ≤ n
  ·have hltz : ((a + 20 : Nat) : Int) ≤ (n : Int) := by omega
   obtain ⟨A, RR, hL, hA, hP, hSt⟩ := F1.out
   have hlr : dk.size = A.length + RR.length := by rw [arr_size hL]; simp
   have e := List.take_append_drop 20 RR
   have hl1 : (RR.take 20).length = 20 := by rw [List.length_take]; omega
   generalize RR.take 20 = X at e hl1
   generalize RR.drop 20 = B at e
   subst e
   have hL2 : dk.toList = A ++ X ++ B := by rw [hL]; simp
   have hcall := HINS.out a (a + 20) d dk A X B w wr HR.out (by rw [hdk]; exact HN.out) S1.out (by omega) hL2 hA.symm (by omega)
   rw [hdk] at hcall
   have HKEEP := Lib.hid (show PreR 20 A ∧ StbF d.toList (A ++ X ++ B) ∧ A.length = a from ⟨hP, by rw [← hL2]; exact hSt, hA⟩)
   have HX := Lib.hid hl1
   clear S1 F1 hL hA hP hSt hlr hl1 hL2
   go_wp2_with fail
   refine hcall.mono ?_
   rintro r w1 ⟨rfl, d', X', hz', hl', hx', hs', hst', S2'⟩
   have S2 : Aside (SWK encF 4 w blk off d' w1) := S2'
   have F2 : Hid (Fst d d' (a + 20)) := ⟨A ++ X', B, hl', by rw [List.length_append, hx', HX.out, HKEEP.out.2.2], PreR.snoc A X' HKEEP.out.1 (hx'.trans HX.out) hs', by rw [hl']; exact HKEEP.out.2.1.part hst'⟩
   clear hcall hl' hx' hs' hst' S2'
   go_wp2
   go_roundg (n - (a + 20))
   case measure => omega
   case rel => exact ⟨a + 20, d', rfl, by go_num, by omega, Nat.le_refl _, hz', S2, F2⟩
  ·have hltz : ¬ ((a + 20 : Nat) : Int) ≤ (n : Int) := by omega
   obtain ⟨A, RR, hL, hA, hP, hSt⟩ := F1.out
   have hlr : dk.size = A.length + RR.length := by rw [arr_size hL]; simp
   have hL2 : dk.toList = A ++ RR ++ [] := by rw [hL]; simp
   have hcall := HINS.out a n d dk A RR [] w wr HR.out (by rw [hdk]; exact HN.out) S1.out (by omega) hL2 hA.symm (by omega)
   rw [hdk] at hcall
   have HKEEP := Lib.hid (show PreR 20 A ∧ StbF d.toList (A ++ RR ++ []) ∧ RR.length ≤ 20 from ⟨hP, by rw [← hL2]; exact hSt, by omega⟩)
   clear S1 F1 hL hA hP hSt hlr hL2
   go_wp2_with fail
   refine hcall.mono ?_
   rintro r w1 ⟨rfl, d1, X', hz1, hl', hx', hs', hst', S2'⟩
   have S2 : Aside (SWK encF 4 w blk off d1 w1) := S2'
   have G2 : Hid (Alls d d1 20) := ⟨by rw [hl', List.append_nil]; exact HKEEP.out.1.runs _ (RunsI.last X' (by rw [hx']; exact HKEEP.out.2.2) hs'), by rw [hl']; exact HKEEP.out.2.1.part hst'⟩
   have hd1 : d1.size = n := hz1
   clear hcall hl' hx' hs' hst' S2' HKEEP hz1 hdk
   go_wp2
   go_loopg [6, 7, 8, 9] n (fun kx s6 _ _ _ wr => ∃ (bs : Nat) (dk : Array Fa), s6 = .int .i64 bs ∧ 1 ≤ bs ∧ bs ≤ 2 * n + 20 ∧ n - bs ≤ kx ∧ dk.size = n ∧ Aside (SWK encF 4 w blk off dk wr) ∧ Hid (Alls d dk bs))
   case atStart => exact ⟨20, d1, rfl, by omega, by omega, by omega, hd1, S2, G2⟩
   case round =>
    clear S2 G2 hd1
    obtain ⟨bs, dk, rfl, hb1, hb2, hkx2, hdk, S1, G1⟩ := hrel
    by_cases hlt2 : bs < n
    ·have hlt2z : (bs : Int) < (n : Int) := by omega
     have HS0 : Hid (Snd d dk bs 0) := ⟨[], dk.toList, by simp, rfl, PreR.nil, G1.out.1, G1.out.2⟩
     clear G1
     go_wp2
     go_loopg [7, 8] n (fun kx s7 s8 wr => ∃ (a : Nat) (dk : Array Fa), s7 = .int .i64 a ∧ s8 = .int .i64 (a + 2 * bs : Nat) ∧ a ≤ n ∧ n - a ≤ kx ∧ dk.size = n ∧ Aside (SWK encF 4 w blk off dk wr) ∧ Hid (Snd d dk bs a))
     case atStart => exact ⟨0, dk, rfl, by go_num, Nat.zero_le _, by omega, hdk, S1, HS0⟩
     case round =>
      clear S1 HS0 hdk
      obtain ⟨a, dk, rfl, rfl, ha, hkx3, hdk, S1, F1⟩ := hrel
      obtain ⟨A, RR, hL, hA, hP, hRr, hSt⟩ := F1.out
      have hlr : dk.size = A.length + RR.length := by rw [arr_size hL]; simp
      by_cases hlt3 : a + 2 * bs ≤ n
      ·have hlt3z : ((a + 2 * bs : Nat) : Int) ≤ (n : Int) := by omega
       obtain ⟨X, Y, B, rfl, hx, hy, sx, sy, hrb⟩ := hRr.two hb1 (by omega)
       have hcall := HSYM.out (2 * bs) a (a + bs) (a + 2 * bs) dk A X Y B wr (by omega) (by rw [hdk]; exact HN.out) S1.out (by omega) (by omega) (by omega) ⟨by rw [hL]; simp, hA.symm, by omega, by omega, sx, sy⟩
       rw [hdk] at hcall
       have HKEEP := Lib.hid (show PreR (2 * bs) A ∧ StbF d.toList (A ++ (X ++ Y) ++ B) ∧ A.length = a ∧ RunsI bs B ∧ dk.toList = A ++ (X ++ Y) ++ B ∧ (X ++ Y).length = 2 * bs from ⟨hP, by rw [hL] at hSt; simpa using hSt, hA, hrb, by rw [hL]; simp, by simp; omega⟩)
       clear S1 F1 hL hA hP hRr hSt hlr hx hy sx sy hrb
       go_wp2_with fail
       refine hcall.mono ?_
       rintro r w1 ⟨rfl, d', hz', ⟨Z, hl', hs', hst'⟩, S2'⟩
       have S2 : Aside (SWK encF 4 w blk off d' w1) := S2'
       have hzl : Z.length = 2 * bs := by
        have e1 := arr_size hl'
        have e2 := arr_size HKEEP.out.2.2.2.2.1
        have e3 := HKEEP.out.2.2.2.2.2
        rw [List.length_append, List.length_append] at e1 e2
        omega
       have F2 : Hid (Snd d d' bs (a + 2 * bs)) := ⟨A ++ Z, B, hl', by rw [List.length_append, hzl, HKEEP.out.2.2.1], PreR.snoc A Z HKEEP.out.1 hzl hs', HKEEP.out.2.2.2.1, by rw [hl']; exact HKEEP.out.2.1.part hst'⟩
       clear hcall hl' hs' hst' S2' hzl HKEEP
       go_wp2
       go_roundg (n - (a + 2 * bs))
       case measure => omega
       case rel => exact ⟨a + 2 * bs, d', by go_num, by go_num, by omega, Nat.le_refl _, hz', S2, F2⟩
      ·have hlt3z : ¬ ((a + 2 * bs : Nat) : Int) ≤ (n : Int) := by omega
       by_cases hm : a + bs < n
       ·have hmz : (a : Int) + (bs : Int) < (n : Int) := by omega
        obtain ⟨X, Y, rfl, hx, sx, hrb⟩ := hRr.cut (by omega)
        have sy : Srt Y := hrb.short (by rw [List.length_append] at hlr; omega)
        have hyl : Y.length = n - (a + bs) := by rw [List.length_append] at hlr; omega
        have hcall := HSYM.out (2 * bs) a (a + bs) n dk A X Y [] wr (by omega) (by rw [hdk]; exact HN.out) S1.out (by omega) hm (by omega) ⟨by rw [hL]; simp, hA.symm, by omega, by omega, sx, sy⟩
        rw [hdk] at hcall
        have HKEEP := Lib.hid (show PreR (2 * bs) A ∧ StbF d.toList (A ++ (X ++ Y) ++ []) ∧ dk.toList = A ++ (X ++ Y) ++ [] ∧ (X ++ Y).length ≤ 2 * bs from ⟨hP, by rw [hL] at hSt; simpa using hSt, by rw [hL]; simp, by simp; omega⟩)
        clear S1 F1 hL hA hP hRr hSt hlr hx sx sy hrb hyl
        go_wp2_with fail
        refine hcall.mono ?_
        rintro r w1 ⟨rfl, d', hz', ⟨Z, hl', hs', hst'⟩, S2'⟩
        have S2 : Aside (SWK encF 4 w blk off d' w1) := S2'
        have hzl : Z.length ≤ 2 * bs := by
         have e1 := arr_size hl'
         have e2 := arr_size HKEEP.out.2.2.1
         have e3 := HKEEP.out.2.2.2
         rw [List.length_append, List.length_append] at e1 e2
         omega
        have G2 : Hid (Alls d d' (2 * bs)) := ⟨by rw [hl', List.append_nil]; exact HKEEP.out.1.runs _ (RunsI.last Z hzl hs'), by rw [hl']; exact HKEEP.out.2.1.part hst'⟩
        have hd' : d'.size = n := hz'
        clear hcall hl' hs' hst' S2' hzl HKEEP hz'
        go_wp2
        go_roundg (n - 2 * bs)
        case measure => omega
        case rel => exact ⟨2 * bs, d', by go_num, by omega, by omega, Nat.le_refl _, hd', S2, G2⟩
       ·have hmz : ¬ (a : Int) + (bs : Int) < (n : Int) := by omega
        have G2 : Hid (Alls d dk (2 * bs)) := ⟨by rw [hL]; exact hP.runs _ (RunsI.last RR (by omega) (hRr.short (by omega))), hSt⟩
        clear F1 hL hA hP hRr hSt hlr
        go_wp2
        go_roundg (n - 2 * bs)
        case measure => omega
        case rel => exact ⟨2 * bs, dk, by go_num, by omega, by omega, Nat.le_refl _, hdk, S1, G2⟩
    ·have hlt2z : ¬ (bs : Int) < (n : Int) := by omega
     go_wp2
     go_end0
     exact ⟨rfl, dk, hdk, G1.out.1.short (by rw [Array.length_toList]; omega), G1.out.2, S1.out⟩
set_option maxHeartbeats 1000000 in
theorem fa_sort (g : Nat) (eg : ∀ args w, (callFunc g args).run Tryz.prog w = .ok (.enter g args) w) (hC : CmpF Tryz.prog g) (blk off cap : Nat) (d : Array Fa) (w : World) (R : Go.Proofs.RowK encF 4 w blk off d) (hsz : d.size ≤ 4398046510976) :
  Calls Tryz.prog 106 #[.slice (some ⟨blk, off, none⟩) d.size cap, .func (.func g) #[] #[]] w fun e w' =>
   e = .returned (.tuple #[]) ∧ ∃ d' : Array Fa, d'.size = d.size ∧ Srt d'.toList ∧ StbF d.toList d'.toList ∧ SWK encF 4 w blk off d' w' := by
 have hcon := fa_stable g eg hC blk off cap d w R hsz
 obtain ⟨n, hn⟩ : ∃ n, d.size = n := ⟨_, rfl⟩
 rw [hn] at hcon hsz ⊢
 clear hC R eg hn
 have HCON := Lib.hid hcon
 clear hcon
 go_enter Tryz.func106, Tryz.ntmps106
 go_wp2_with fail
 refine HCON.out.mono ?_
 rintro r w1 ⟨rfl, hx⟩
 have HX := Lib.hid hx
 clear hx HCON
 go_wp2_with fail
 go_end0
 exact ⟨rfl, HX.out⟩
theorem cmpF_ahead : CmpF Tryz.prog 107 := by
 intro x y W
 obtain ⟨x1, x2, x3, x4⟩ := x
 obtain ⟨y1, y2, y3, y4⟩ := y
 have hcon : ∀ W', Calls Tryz.prog 108 #[.int .i64 x1, .int .i64 y1] W' fun e w' => e = .returned (.int .i64 (Lib.compareInt x1 y1)) ∧ w' = W' := fun W' => AnyG.cmp_Compare_int Tryz.cmpInt x1 y1 W'
 show Calls Tryz.prog 107 #[.agg #[.int .i64 x1, .int .i64 x2, .int .i64 x3, .int .i64 x4], .agg #[.int .i64 y1, .int .i64 y2, .int .i64 y3, .int .i64 y4]] W fun e w' => e = .returned (.int .i64 (Lib.compareInt x1 y1)) ∧ ∃ q os, w' = grow (W.drewN q) os
 generalize Lib.compareInt x1 y1 = r at hcon ⊢
 go_enter Tryz.func107, Tryz.ntmps107
 go_wp2_with (go_at_call 108; refine (hcon _).mono ?_; rintro e w' ⟨rfl, rfl⟩)
 go_ret
 exact ⟨rfl, 0, _, by rw [alloc_eq_grow, alloc_eq_grow, grow_grow]; rfl⟩
end Go.Proofs.YtalefbmoebobkaaGreatDoor
/- Are two faults the same: the model's comparison of them. -/
namespace Go.Proofs.YtalefbmoebobkaaGreatDoor
set_option maxRecDepth 100000
open Go.RowKit Go.Shelf Go.Proofs
def CMF (w0 : World) (b o : Nat) (x : Fa) (w : World) : Prop := w.rangeAt b o (encF x) ∧ b < w.heap.size ∧ Below w0.heap.size w0 w
theorem CMF.call {w0 w w' : World} {b o : Nat} {x : Fa} (h : CMF w0 b o x w) (hb : Below w.heap.size w w') : CMF w0 b o x w' :=
 ⟨fun j v hj => by rw [World.cell?_of_block (w := w) (hb.block b h.2.1)]; exact h.1 j v hj, Nat.lt_of_lt_of_le h.2.1 hb.size, h.2.2.trans (hb.mono h.2.2.size)⟩
theorem no_specialF {T : World → World → Prop} : ∀ (j : Nat) (a a' : Act) (w w' : World), (fun (_ : Nat) (_ : Act) (_ : World) => False) j a w → (∀ d ∈ ([] : List Tmp), a'.tmps.getD d undef = a.tmps.getD d undef) → T w w' → (fun (_ : Nat) (_ : Act) (_ : World) => False) j a' w' := fun _ _ _ _ _ h _ _ => h
/- Package fault, walked: a row of faults of the call's own; slices.Clone; Without's closure. -/
def flatF (l : List Fa) : List Value := l.flatMap encF
theorem flatF_len (l : List Fa) : (flatF l).length = l.length * 4 := by
 unfold flatF
 induction l with
 | nil => rfl
 | cons x r ih => rw [List.flatMap_cons, List.length_append, ih, encF_len, List.length_cons]; omega
theorem flatF_get : ∀ (l : List Fa) (i j : Nat) (hi : i < l.length), j < 4 → (flatF l)[i * 4 + j]? = (encF l[i])[j]?
 | [], i, j, hi, hj => absurd hi (Nat.not_lt_zero i)
 | x :: r, 0, j, hi, hj => by
  unfold flatF
  rw [List.flatMap_cons, List.getElem?_append_left (by rw [encF_len]; omega)]
  simp
 | x :: r, i + 1, j, hi, hj => by
  unfold flatF
  rw [List.flatMap_cons, List.getElem?_append_right (by rw [encF_len]; omega), encF_len, show (i + 1) * 4 + j - 4 = i * 4 + j by omega]
  exact flatF_get r i j (by simpa using hi) hj
theorem flatF_one (l : List Fa) : ∀ u ∈ flatF l, u.oneCell' = true := by
 intro u hu
 unfold flatF at hu
 rw [List.mem_flatMap] at hu
 obtain ⟨x, _, h⟩ := hu
 exact encF_one x u h
theorem flatF_app (l : List Fa) (x : Fa) : flatF (l ++ [x]) = flatF l ++ encF x := by
 unfold flatF; rw [List.flatMap_append]; simp
def FRow (w : World) (g : Nat) (l : List Fa) : Prop := g < w.heap.size ∧ ∀ i (hi : i < l.length), w.rangeAt g (i * 4) (encF l[i]) ∧ w.there g (i * 4) 4
theorem FRow.keep {w w' : World} {g : Nat} {l : List Fa} (h : FRow w g l) (hg : w'.heap[g]? = w.heap[g]?) (hs : w.heap.size ≤ w'.heap.size) : FRow w' g l := by
 refine ⟨Nat.lt_of_lt_of_le h.1 hs, fun i hi => ?_⟩
 obtain ⟨h1, h2⟩ := h.2 i hi
 refine ⟨fun j v hj => ?_, fun j hj => ?_⟩
 ·rw [World.cell?_of_block (w := w) hg]; exact h1 j v hj
 ·rw [World.cell?_of_block (w := w) hg, World.frozen?_of_block (w := w) hg]; exact h2 j hj
theorem FRow.after {w w' : World} {g : Nat} {l : List Fa} (h : FRow w g l) (hb : Below w.heap.size w w') : FRow w' g l := h.keep (hb.block g h.1) hb.size
theorem size_setCellsF (b : Nat) : ∀ (vs : List Value) (o : Nat) (w : World), (w.setCells b o vs).heap.size = w.heap.size
 | [], _, _ => rfl
 | v :: r, o, w => by rw [World.setCells, size_setCellsF b r]; exact World.size_setCell _ _ _
theorem setCells_neF (b k : Nat) (hne : k ≠ b) : ∀ (vs : List Value) (o : Nat) (w : World), (w.setCells b o vs).heap[k]? = w.heap[k]?
 | [], _, _ => rfl
 | v :: r, o, w => by
  rw [World.setCells, setCells_neF b k hne r (o + 1) _]
  exact Below.heap_setCell _ _ _ _ hne
theorem FRow.set {w : World} {g : Nat} {l : List Fa} (h : FRow w g l) (i : Nat) (x : Fa) (hi : i < l.length) : FRow (w.setCells g (i * 4) (encF x)) g (l.set i x) := by
 refine ⟨by rw [size_setCellsF]; exact h.1, fun k hk => ?_⟩
 have hk' : k < l.length := by simpa using hk
 have ht : w.there g (i * 4) (encF x).length := (h.2 i hi).2
 refine ⟨?_, World.there_setCells (h.2 k hk').2 g (i * 4) (encF x)⟩
 by_cases e : i = k
 ·subst e
  rw [List.getElem_set_self]
  exact World.rangeAt_setCells_same w g (i * 4) (encF x) ht
 ·rw [List.getElem_set_ne e]
  refine World.rangeAt_setCells_apart (h.2 k hk').1 g (i * 4) (encF x) (Or.inr ?_)
  show k * 4 + 4 ≤ i * 4 ∨ i * 4 + 4 ≤ k * 4
  omega
theorem FRow.fs {w : World} {g : Nat} {l : List Fa} (h : FRow w g l) : FsAt w (some ⟨g, 0, none⟩) l :=
 fun _ => ⟨g, 0, rfl, h.1, fun i hi => by rw [Nat.zero_add]; exact (h.2 i hi).1⟩
theorem FRow.of_blk {w : World} {g : Nat} {cs : Array Value} {t : TypeId} {l : List Fa} (h : Blk w g cs t) (hc : cs.toList.take (l.length * 4) = flatF l) : FRow w g l := by
 have key : ∀ i j, (hi : i < l.length) → j < 4 → w.cell? ⟨g, i * 4 + j, none⟩ = (encF l[i])[j]? := by
  intro i j hi hj
  rw [h.cell, ← flatF_get l i j hi hj, ← hc, List.getElem?_take_of_lt (by omega)]
  simp
 refine ⟨h.lt, fun i hi => ⟨fun j v hv => ?_, fun j hj => ?_⟩⟩
 ·have hj : j < 4 := (List.getElem?_eq_some_iff.1 hv).1
  rw [key i j hi hj]; exact hv
 ·refine ⟨?_, h.free _⟩
  rw [key i j hi hj, List.getElem?_eq_getElem (by rw [encF_len]; exact hj)]; rfl
theorem infoFault : (Tryz.prog.info? 40).map (fun i => (i.zero, i.size, i.bytes)) = some (some (.agg (encF f0).toArray), 4, 32) := by kernel_rfl
theorem info_partsF {P : Program} {t : TypeId} {z : Option Value} {a b : Nat} (h : (P.info? t).map (fun i => (i.zero, i.size, i.bytes)) = some (z, a, b)) : ∃ i0, P.info? t = some i0 ∧ i0.zero = z ∧ i0.size = a ∧ i0.bytes = b := by
 cases hi : P.info? t with
 | none => rw [hi] at h; cases h
 | some i0 =>
  rw [hi] at h
  simp at h
  exact ⟨i0, rfl, h.1, h.2.1, h.2.2⟩
def OwnF (w0 w : World) (v : Value) (l : List Fa) : Prop := (v = .slice none 0 0 ∧ l = []) ∨ ∃ g cap, v = .slice (some ⟨g, 0, none⟩) l.length cap ∧ w0.heap.size ≤ g ∧ l.length ≤ cap ∧ FRow w g l
set_option maxHeartbeats 1000000 in
theorem fa_clone (oa : Option Addr) (cap : Nat) (l : List Fa) (hl : l.length ≤ 4398046510976) (w : World) (ha : FsAt w oa l) :
  Calls Tryz.prog 105 #[.slice oa l.length cap] w fun e w' => ∃ v, e = .returned v ∧ OwnF w w' v l ∧ Below w.heap.size w w' := by
 cases oa with
 | none =>
  have h0 : l = [] := by
   apply Classical.byContradiction
   intro h
   obtain ⟨b, off, hc, _⟩ := ha h
   cases hc
  subst h0
  have h := AnyE.slices_Clone_nil Tryz.clone 0 cap w
  refine Calls.mono (P := Tryz.prog) (f := 105) h ?_
  rintro e w' ⟨rfl, rfl⟩
  exact ⟨_, rfl, Or.inl ⟨rfl, rfl⟩, Below.refl _ _⟩
 | some a =>
  obtain ⟨i0, hi, hz0, hz1, hz2⟩ := info_partsF infoFault
  have q : ∀ w, Sem.run Tryz.prog (binOp .eql 24 (.slice (some a) l.length cap) (.slice none 0 0)) w = .ok (.bool false) w := fun w => Lib.run_eql_slice_nil w _ 40 _ l.length cap 0 0 Tryz.underlying24
  have HCL : Hid (∀ j u, (flatF l)[j]? = some u → w.cell? (a.add j) = some u) := fun j u hj => by
   have hjn : j < l.length * 4 := by
    have := (List.getElem?_eq_some_iff.1 hj).1
    rwa [flatF_len] at this
   obtain ⟨b, off, hab, _, hc⟩ := ha (fun e => by rw [e] at hjn; simp at hjn)
   cases hab
   have h3 := hc (j / 4) (by omega) (j % 4) u (by rw [← flatF_get l (j / 4) (j % 4) (by omega) (by omega), show j / 4 * 4 + j % 4 = j by omega]; exact hj)
   rw [show off + j / 4 * 4 + j % 4 = off + j by omega] at h3
   rw [Addr.add_lit]; exact h3
  obtain ⟨n, hn⟩ : ∃ n, l.length = n := ⟨_, rfl⟩
  have HN := Lib.hid hn
  rw [hn] at q ⊢
  rw [hn] at hl
  clear ha hn
  go_enter Tryz.func105, Tryz.ntmps105
  go_wp2_with (at_builtin; refine wpList_append_own _ rfl _ _ 24 rfl w.heap.size 40 i0 (.agg (encF f0).toArray) 4 32 Tryz.underlying24 hi hz0 hz1 hz2 rfl (by decide) _ _ _ rfl (World.ownsRow_made w #[] 0 (Nat.le_refl _) (Nat.zero_le _) rfl) a n cap (flatF l) rfl ?c1 ?c2 ?c3 ?c4 ?c5 ?c6 ?_)
  case c1 => rw [flatF_len, HN.out]
  case c2 =>
   intro j u hj
   exact Lib.cell?_alloc_some _ (HCL.out j u hj)
  case c3 => exact flatF_one l
  case c4 => unfold maxLen; omega
  case c5 => omega
  case c6 => simp
  intro v' w1 hown hgrow hnil
  have hb : Below w.heap.size w w1 := ((Below.refl _ w).alloc (Nat.le_refl _) _).grown hgrow (by simp) (by intro k hk; simp [Value.ownBlock] at hk; omega)
  obtain ⟨_, hown⟩ := hown
  have HR : Hid (OwnF w w1 v' l) := by
   rcases hown with ⟨hv, hn0⟩ | ⟨g2, cap2, cur, rfl, hg2, hcur, hcp, _, _, ht⟩
   ·exact Or.inl ⟨hv, List.eq_nil_of_length_eq_zero (by have := HN.out; omega)⟩
   ·refine Or.inr ⟨g2, cap2, by rw [HN.out], hg2, by have := HN.out; omega, ?_⟩
    have hb4 : Blk w1 g2 cur 40 := hcur
    exact FRow.of_blk hb4 (by rw [HN.out]; simpa using ht)
  have HB := Lib.hid hb
  clear hgrow hb hown hnil hi hz0 hz1 hz2 q
  go_wp2_with fail
  go_ret
  exact ⟨v', rfl, HR.out, HB.out⟩
/- Package fault, walked: slices.DeleteFunc over Without's closure; Without. -/
def OG (g : Nat) (w w' : World) : Prop := w.grownBy w' (some g)
theorem OG.refl (g : Nat) (w : World) : OG g w w := ⟨rfl, rfl, rfl, Nat.le_refl _, fun _ _ _ => rfl⟩
theorem OG.trans {g : Nat} {a b c : World} (h : OG g a b) (k : OG g b c) : OG g a c :=
 ⟨k.os.trans h.os, k.tape.trans h.tape, k.output.trans h.output, Nat.le_trans h.size k.size, fun t ht hn => (k.block t (Nat.lt_of_lt_of_le ht h.size) hn).trans (h.block t ht hn)⟩
theorem OG.of_below {g : Nat} {w w' : World} (h : Below w.heap.size w w') : OG g w w' := ⟨h.os, h.tape, h.output, h.size, fun t ht _ => h.block t ht⟩
theorem OG.cells {g : Nat} (w : World) (o : Nat) (vs : List Value) : OG g w (w.setCells g o vs) := by
 have hp : ∀ (vs : List Value) (o : Nat) (w : World), (w.setCells g o vs).os = w.os ∧ (w.setCells g o vs).tape = w.tape ∧ (w.setCells g o vs).output = w.output := by
  intro vs
  induction vs with
  | nil => intro o w; exact ⟨rfl, rfl, rfl⟩
  | cons v r ih => intro o w; rw [World.setCells]; exact ih (o + 1) _
 obtain ⟨h1, h2, h3⟩ := hp vs o w
 exact ⟨h1, h2, h3, by rw [size_setCellsF]; exact Nat.le_refl _, fun t _ hn => setCells_neF g t (fun e => hn (by rw [e])) vs o w⟩
theorem OG.below {g B : Nat} {w0 w w' : World} (h0 : Below B w0 w) (h : OG g w w') (hB : B ≤ w0.heap.size) (hg : B ≤ g) : Below B w0 w' :=
 ⟨h.os.trans h0.os, h.tape.trans h0.tape, h.output.trans h0.output, Nat.le_trans h0.size h.size, fun t ht => (h.block t (Nat.lt_of_lt_of_le (Nat.lt_of_lt_of_le ht hB) (Nat.le_trans (Nat.le_of_eq rfl) (by have := h0.size; omega))) (fun e => by cases e; omega)).trans (h0.block t ht)⟩
def others (k : Int) (l : List Fa) : List Fa := l.filter fun x => !(x.2.1 == k)
def Kept2 (k : Int) (l dl : List Fa) (i j : Nat) : Prop := dl.length = l.length ∧ dl.take i = others k (l.take j) ∧ dl.drop j = l.drop j
theorem Kept2.at {k : Int} {l dl : List Fa} {i j : Nat} (h : Kept2 k l dl i j) (hj : j < l.length) : dl[j]'(by rw [h.1]; exact hj) = l[j] := by
 have h2 := congrArg (fun t : List Fa => t[0]?) h.2.2
 simp only [List.getElem?_drop, Nat.add_zero] at h2
 rw [List.getElem?_eq_getElem hj, List.getElem?_eq_getElem (by rw [h.1]; exact hj)] at h2
 exact Option.some.inj h2
theorem drop_more {l l' : List Fa} {j : Nat} (h : l.drop j = l'.drop j) : l.drop (j + 1) = l'.drop (j + 1) := by
 rw [← List.drop_drop, ← List.drop_drop, h]
theorem Kept2.skip {k : Int} {l dl : List Fa} {i j : Nat} (h : Kept2 k l dl i j) (hj : j < l.length) (hx : (l[j].2.1 == k) = true) : Kept2 k l dl i (j + 1) := by
 refine ⟨h.1, ?_, drop_more h.2.2⟩
 rw [h.2.1, List.take_add_one, List.getElem?_eq_getElem hj]
 unfold others
 rw [Option.toList_some, List.filter_append, List.filter_cons_of_neg (by simp [hx])]
 simp
theorem Kept2.keep {k : Int} {l dl : List Fa} {i j : Nat} (h : Kept2 k l dl i j) (hij : i < j) (hj : j < l.length) (hx : (l[j].2.1 == k) = false) : Kept2 k l (dl.set i l[j]) (i + 1) (j + 1) := by
 refine ⟨by rw [List.length_set]; exact h.1, ?_, ?_⟩
 ·rw [List.take_add_one, List.getElem?_set_self (by rw [h.1]; omega), List.take_set_of_le (Nat.le_refl i), h.2.1, List.take_add_one, List.getElem?_eq_getElem hj]
  unfold others
  rw [Option.toList_some, List.filter_append, List.filter_cons_of_pos (by simp [hx])]
  simp
 ·rw [List.drop_set_of_lt (by omega)]
  exact drop_more h.2.2
theorem Kept2.start {k : Int} {l : List Fa} {j : Nat} (hj : j < l.length) (hx : (l[j].2.1 == k) = true) (hm : ∀ i (hi : i < l.length), i < j → (l[i].2.1 == k) = false) : Kept2 k l l j (j + 1) := by
 have h0 : Kept2 k l l j j := ⟨rfl, by
  unfold others
  rw [List.filter_eq_self.2]
  intro x hx
  obtain ⟨t, ht, ht2, rfl⟩ := mem_take hx
  simp [hm t ht ht2], rfl⟩
 exact h0.skip hj hx
end Go.Proofs.YtalefbmoebobkaaGreatDoor
/- Package fault, walked: Ahead. -/
namespace Go.Proofs.YtalefbmoebobkaaGreatDoor
set_option maxRecDepth 100000
open Go.RowKit Go.Shelf Go.Sort Go.Proofs
theorem holds_of_row {w : World} {g : Nat} {l : List Fa} (h : FRow w g l) : HoldsK encF 4 w g 0 l.toArray := by
 intro t ht
 have ht2 : t < l.toArray.size * 4 := by simpa using ht
 have hi : t / 4 < l.length := by simp at ht2; omega
 rw [get_flatK _ _ _ _ ht2, Nat.zero_add]
 obtain ⟨h1, h2⟩ := h.2 (t / 4) hi
 have e : t / 4 * 4 + t % 4 = t := by omega
 have hl : l.toArray[t / 4]! = l[t / 4] := by rw [getElem!_pos l.toArray (t / 4) (by simpa using hi)]; simp
 have h4 : t % 4 < (encF l[t / 4]).length := by rw [encF_len]; omega
 refine ⟨?_, ?_⟩
 ·have h5 := h1 (t % 4) _ (List.getElem?_eq_getElem h4)
  rw [e] at h5
  rw [h5, hl, getElem!_pos (encF l[t / 4]) (t % 4) h4]
  rfl
 ·have h5 := (h2 (t % 4) (by omega)).2
  rwa [e] at h5
theorem row_of_holds {w : World} {g : Nat} {d : Array Fa} (hg : g < w.heap.size) (h : HoldsK encF 4 w g 0 d) : FRow w g d.toList := by
 refine ⟨hg, fun i hi => ⟨fun j v hj => ?_, fun j hj => ?_⟩⟩
 ·have hj4 : j < (encF d.toList[i]).length := (List.getElem?_eq_some_iff.1 hj).1
  have hid : i < d.size := by simpa using hi
  have h1 := (HoldsK.cell h (i := i) (c := j) hid (by rw [encF_len] at hj4; exact hj4)).1
  rw [Nat.zero_add] at h1
  rw [h1, getElem!_pos d i hid]
  rw [List.getElem?_eq_getElem hj4] at hj
  have e : (encF d[i])[j]! = (encF d.toList[i])[j] := by
   rw [getElem!_pos (encF d[i]) j (by rw [encF_len]; rw [encF_len] at hj4; exact hj4)]
   simp
  rw [e]; exact hj
 ·have hid : i < d.size := by simpa using hi
  have h1 := HoldsK.cell h (i := i) (c := j) hid hj
  rw [Nat.zero_add] at h1
  exact ⟨by rw [h1.1]; rfl, h1.2⟩
theorem og_sorted (w : World) (g off n : Nat) (d : Array Fa) (os : Array Obj) : OG g w (sortWorldK encF 4 w g off n d os) := by
 unfold sortWorldK putRowK putRow mapBlock
 refine ⟨rfl, rfl, rfl, ?_, fun t ht hn => ?_⟩
 ·rw [size_grow]; simp [Sort.ahead]
 ·rw [heap_grow_old _ _ (by simpa [Sort.ahead] using ht)]
  simp only [Array.getElem?_modify]
  rw [if_neg (fun e => hn (by rw [e]))]
  rfl
theorem fa_sort_nil (g : Nat) (w : World) : Calls Tryz.prog 106 #[.slice none 0 0, .func (.func g) #[] #[]] w fun e w' => e = .returned (.tuple #[]) ∧ Below w.heap.size w w' := by
 have hi : ∀ w, Calls Tryz.prog 156 #[.slice none 0 0, .int .i64 0, .int .i64 0, .func (.func g) #[] #[]] w fun e w' => e = .returned (.tuple #[]) ∧ w = w' := fun w => by
  go_enter Tryz.func156, Tryz.ntmps156
  go_wp2
  refine wp_loop_rounds 1 ?_
  rw [rounds_succ]
  go_wp2
  go_end0
  exact ⟨rfl, rfl⟩
 have hs : ∀ w, Calls Tryz.prog 137 #[.slice none 0 0, .int .i64 0, .func (.func g) #[] #[]] w fun e w' => e = .returned (.tuple #[]) ∧ w = w' := fun w => by
  go_enter Tryz.func137, Tryz.ntmps137
  go_wp2
  refine wp_loop_rounds 1 ?_
  rw [rounds_succ]
  go_wp2_with fail
  refine (hi w).mono ?_
  rintro r w1 ⟨rfl, rfl⟩
  go_wp2_with fail
  refine wp_loop_rounds 1 ?_
  rw [rounds_succ]
  go_wp2
  go_end0
  exact ⟨rfl, rfl⟩
 clear hi
 go_enter Tryz.func106, Tryz.ntmps106
 go_wp2_with fail
 refine (hs w).mono ?_
 rintro r w1 ⟨rfl, rfl⟩
 clear hs
 go_wp2_with fail
 go_end0
 exact ⟨rfl, Below.refl _ _⟩
def AhdAt (w : World) (B g : Nat) (L : List Fa) : Prop := ∃ oa cap, Blk w B #[.slice oa L.length cap] 24 ∧ (L ≠ [] → oa = some ⟨g, 0, none⟩ ∧ FRow w g L)
set_option maxHeartbeats 1000000 in
theorem fa_ahead (oa : Option Addr) (cap : Nat) (l : List Fa) (hl : l.length ≤ 4398046510976) (w : World) (ha : FsAt w oa l) :
  Calls Tryz.prog 66 #[.slice oa l.length cap] w fun e w' => ∃ B g L, e = .returned (.func (.func 109) #[] #[.pointer (some ⟨B, 0, none⟩)]) ∧ AhdAt w' B g L ∧ Srt L ∧ StbF l L ∧ L.length = l.length ∧ w.heap.size ≤ B ∧ Below w.heap.size w w' := by
 have hcl := fa_clone oa cap l hl w ha
 have HCL := Lib.hid hcl
 have eg : ∀ args w, (callFunc 107 args).run Tryz.prog w = .ok (.enter 107 args) w := enters_of Tryz.func107 (by kernel_rfl) rfl
 obtain ⟨n, hn⟩ : ∃ n, l.length = n := ⟨_, rfl⟩
 have HN := Lib.hid hn
 have HEG := Lib.hid eg
 rw [hn] at HCL hl ⊢
 clear hcl ha hn eg
 go_enter Tryz.func66, Tryz.ntmps66
 go_wp2_with fail
 refine HCL.out.mono ?_
 rintro r w1 ⟨v, rfl, hown, hb1⟩
 have HB1 := Lib.hid hb1
 clear hb1 HCL
 rcases hown with ⟨rfl, hl0⟩ | ⟨g, cap2, rfl, hg, hcap, hrow⟩
 ·subst hl0
  have hk := Blk.new w1 #[.slice none 0 0] 24
  have K2 := Lib.hid hk
  have HB2 : Hid (Below w.heap.size w (w1.alloc (.cells #[.slice none 0 0] 24))) := HB1.out.alloc HB1.out.size _
  have HS := Lib.hid (fa_sort_nil 107 (w1.alloc (.cells #[.slice none 0 0] 24)))
  clear hk
  go_wp2_with fail
  refine HS.out.mono ?_
  rintro r w3 ⟨rfl, hb3⟩
  have K3 := Lib.hid (K2.out.after hb3)
  have HB3 := Lib.hid (HB2.out.trans (hb3.mono HB2.out.size))
  clear hb3 K2 HB2 HS
  go_wp2_with fail
  go_ret
  exact ⟨w1.heap.size, 0, [], rfl, ⟨none, 0, K3.out, fun h => absurd rfl h⟩, List.Pairwise.nil, StbF.refl _, HN.out, HB1.out.size, HB3.out⟩
 ·have hcap' : l.length ≤ cap2 := hcap
  have hk := Blk.new w1 #[.slice (some ⟨g, 0, none⟩) l.length cap2] 24
  have hb2 : Below w1.heap.size w1 (w1.alloc (.cells #[.slice (some ⟨g, 0, none⟩) l.length cap2] 24)) := (Below.refl _ w1).alloc (Nat.le_refl _) _
  have hrow2 := hrow.after hb2
  have hR := row4 (holds_of_row hrow2) hrow2.1
  have hsrt := fa_sort 107 HEG.out cmpF_ahead g 0 cap2 l.toArray (w1.alloc (.cells #[.slice (some ⟨g, 0, none⟩) l.length cap2] 24)) hR (by have := HN.out; simp; omega)
  rw [show l.toArray.size = l.length by simp] at hsrt
  have HRK := Lib.hid hR
  have K2 := Lib.hid hk
  have HB2 : Hid (Below w.heap.size w (w1.alloc (.cells #[.slice (some ⟨g, 0, none⟩) l.length cap2] 24))) := HB1.out.alloc HB1.out.size _
  have HS := Lib.hid hsrt
  have HG : Hid (w.heap.size ≤ g ∧ g < w1.heap.size) := ⟨hg, hrow.1⟩
  clear hk hb2 hrow2 hR hsrt hrow hcap
  go_wp2_with fail
  refine HS.out.mono ?_
  rintro r w3 ⟨rfl, d', hz, hsd, hst, hS⟩
  have hL : d'.toList.length = l.length := by simpa using hz
  have hog : OG g (w1.alloc (.cells #[.slice (some ⟨g, 0, none⟩) l.length cap2] 24)) w3 := by
   obtain ⟨m, os, rfl⟩ := hS
   exact og_sorted _ g 0 m d' os
  have hrow3 : FRow w3 g d'.toList := row_of_holds (hS.lt HRK.out.hblk) (hS.holds HRK.out.hblk HRK.out.hH (by simpa using hz))
  have hK3 : Blk w3 w1.heap.size #[.slice (some ⟨g, 0, none⟩) d'.toList.length cap2] 24 := by
   rw [hL]
   unfold Blk
   rw [hog.block w1.heap.size (by simp) (fun e => by have := HG.out.2; have e2 := Option.some.inj e; omega)]
   exact K2.out
  have HROW := Lib.hid hrow3
  have HK3 := Lib.hid hK3
  have HB3 : Hid (Below w.heap.size w w3) := OG.below HB2.out hog (Nat.le_refl _) HG.out.1
  have HSD := Lib.hid hsd
  have HST : Hid (StbF l d'.toList) := by show StbF l d'.toList; have h : StbF l.toArray.toList d'.toList := hst; simpa using h
  have HLL : Hid (d'.toList.length = n) := hL.trans HN.out
  clear hz hsd hst hS hL hog hrow3 hK3 HS K2 HB2 HRK
  go_wp2_with fail
  go_ret
  exact ⟨w1.heap.size, g, d'.toList, rfl, ⟨_, _, HK3.out, fun _ => ⟨rfl, HROW.out⟩⟩, HSD.out, HST.out, HLL.out, HB1.out.size, HB3.out⟩
end Go.Proofs.YtalefbmoebobkaaGreatDoor
/- The iterator of Ahead, walked: the faults of a row, one by one. -/
namespace Go.Proofs.YtalefbmoebobkaaGreatDoor
set_option maxRecDepth 100000
open Go.RowKit Go.Shelf Go.Proofs
attribute [local go_sem] Oper.semAt_some
theorem wpListIn_store_rowF {F : Fence} {n : Nat} {P : Program} {ops : Array Oper} {rest : List Oper} {o : Oper} {a : Act} {w : World} {Q : Exit → Act → World → Prop} (hgd : o.guard = none) (ty : TypeId) (x y : Operand) (ho : o.op = .store ty x y)
  (g : Nat) (cells : Array Value) (hx : a.eval x = .pointer (some ⟨g, 0, none⟩)) (hy : a.eval y = .agg cells)
  (t : TypeId) (old : Array Value) (hg : w.heap[g]? = some (.cells old t (0, 0))) (hi : (P.info? ty).map (·.size) = some cells.size)
  (hold : old.size = cells.size) (h1 : cells.all (·.oneCell') = true)
  (h : wpListIn F n P ops Q rest (a.put o.dst undef) (w.setRow g cells)) : wpListIn F n P ops Q (o :: rest) a w := by
 refine wpListIn_plain hgd fun K hK => ?_
 unfold Oper.wpIn
 refine ⟨?_, ?_⟩
 ·simp [Oper.about, ho]
 ·rw [Oper.semAt_plain F _ _ (by rw [ho]; intro c hc'; cases hc')]
  simp only [execOp, ho, hx, hy, Instr.storeAt, Instr.sureAddr, Sem.run_bind, Sem.run_pure, Result.andThen_ok, run_storeVar_row w g t ty old cells hg hi hold h1]
  exact hK _ _ h
theorem wpListIn_load_rowF {F : Fence} {n : Nat} {P : Program} {ops : Array Oper} {rest : List Oper} {o : Oper} {a : Act} {w : World} {Q : Exit → Act → World → Prop} (hgd : o.guard = none) (ty : TypeId) (x : Operand) (ho : o.op = .load ty x)
  (g : Nat) (hx : a.eval x = .pointer (some ⟨g, 0, none⟩)) (t : TypeId) (cs : Array Value) (fr : Nat × Nat) (d : TypeDesc) (hg : w.heap[g]? = some (.cells cs t fr))
  (hu : P.underlying ty = some d) (hd : (match d with | .struct _ | .array _ _ => true | _ => false) = true) (hi : (P.info? ty).map (·.size) = some cs.size)
  (h : wpListIn F n P ops Q rest (a.put o.dst (.agg cs)) w) : wpListIn F n P ops Q (o :: rest) a w := by
 refine wpListIn_plain hgd fun K hK => ?_
 unfold Oper.wpIn
 refine ⟨?_, ?_⟩
 ·simp [Oper.about, ho]
 ·rw [Oper.semAt_plain F _ _ (by rw [ho]; intro c hc'; cases hc')]
  simp only [execOp, ho, hx, Instr.loadAt, Instr.sureAddr, Sem.run_bind, Sem.run_pure, Result.andThen_ok, run_loadVar_row w g t ty cs fr d hg hu hd hi]
  exact hK _ _ h
theorem grown_of_belowF {W W' : World} (h : Below W.heap.size W W') : W.grownBy W' none := ⟨h.os, h.tape, h.output, h.size, fun k hk _ => h.block k hk⟩
set_option maxHeartbeats 4000000 in
theorem ahd_in (m : Nat) (hm : 1 ≤ m) (l B g : Nat) (L : List Fa) (hLn : L.length ≤ 4398046510976) (J Jx : List Fa → World → Prop) (W : World) (hA : AbidesFrom W.heap.size J)
  (hY : ∀ pre x W, J pre W → pre.length < L.length → YieldAt Fence.wide (m - 1) Tryz.prog l #[.agg (encF x).toArray] W fun e W' =>
   (e = .returned (.bool true) ∧ J (pre ++ [x]) W' ∧ KeepB [g] W W') ∨ (e = .returned (.bool false) ∧ Jx (pre ++ [x]) W'))
  (hat : AhdAt W B g L) (h0 : J [] W) :
  CallsIn Fence.wide m Tryz.prog 109 #[.func (.yield l) #[] #[], .pointer (some ⟨B, 0, none⟩)] W fun e W' => (∃ v, e = .returned v) ∧
   ((∃ ys, ys = L ∧ J ys W') ∨ (∃ pre, (∃ k, k ≤ L.length ∧ pre = L.take k) ∧ Jx pre W')) := by
 obtain ⟨oa, cap, hk, hrow⟩ := hat
 have hcb : W.cell? ⟨B, 0, none⟩ = some (.slice oa L.length cap) := hk.cell 0
 have HY := Lib.hid hY
 have HAB := Lib.hid hA
 have HROW := Lib.hid hrow
 obtain ⟨n, hn⟩ : ∃ n, L.length = n := ⟨_, rfl⟩
 have HN := Lib.hid hn
 rw [hn] at hcb hLn
 have HJ0 : Hid (J (L.take 0) W) := h0
 clear hY hA hrow hn hk h0
 refine callsIn_of_wp Tryz.func109 rfl trivial ?_ rfl
 simp only [Tryz.ntmps109, List.size_toArray, List.length_cons, List.length_nil, Nat.reduceAdd, Nat.reduceSub, Array.replicate_succ, Array.replicate_zero, List.push_toArray, List.append_toArray, List.nil_append, List.cons_append]
 gi_wp2
 gi_loopw [7] (fun i wr => ∃ k : Nat, k ≤ n ∧ i = .int .i64 k ∧ Hid (J (L.take k) wr) ∧ Hid (KeepB [g] W wr) ) (fun i _ => n - (intOf i).toNat)
 case atStart => exact ⟨0, Nat.zero_le _, rfl, HJ0, KeepB.refl _ _⟩
 case round =>
  clear HJ0
  obtain ⟨k, hk, rfl, HJ, HKB⟩ := hrel
  by_cases hlt : k < n
  ·have hlti : (k : Int) < (n : Int) := by omega
   have hkl : k < L.length := by have := HN.out; omega
   obtain ⟨rfl, hfr⟩ := HROW.out (fun e => by rw [e] at hkl; simp at hkl)
   have hg : g < wr.heap.size := by
    have h := HKB.out g (by simp)
    rw [Array.getElem?_eq_getElem hfr.1] at h
    exact (Array.getElem?_eq_some_iff.1 h).1
   have hcells : ∀ j v, (encF L[k])[j]? = some v → wr.cell? ⟨g, k * 4 + j, none⟩ = some v := fun j v hj => (HKB.out.cell (by simp)).trans ((hfr.2 k hkl).1 j v hj)
   have htk : L.take (k + 1) = L.take k ++ [L[k]] := by rw [List.take_add_one, List.getElem?_eq_getElem hkl]; rfl
   have hpl : (L.take k).length < L.length := by rw [List.length_take]; omega
   generalize L[k] = x at hcells htk
   obtain ⟨x1, x2, x3, x4⟩ := x
   have c0 : wr.cell? ⟨g, k * 4, none⟩ = some (.int .i64 x1) := hcells 0 _ rfl
   have c1 : wr.cell? ⟨g, k * 4 + 1, none⟩ = some (.int .i64 x2) := hcells 1 _ rfl
   have c2 : wr.cell? ⟨g, k * 4 + 2, none⟩ = some (.int .i64 x3) := hcells 2 _ rfl
   have c3 : wr.cell? ⟨g, k * 4 + 3, none⟩ = some (.int .i64 x4) := hcells 3 _ rfl
   have hK0 : Blk (wr.alloc (.cells (encF f0).toArray 40)) wr.heap.size (encF f0).toArray 40 := Blk.new wr _ _
   obtain ⟨w2, hw2⟩ : ∃ w2, (wr.alloc (.cells (encF f0).toArray 40)).setRow wr.heap.size (encF (x1, x2, x3, x4)).toArray = w2 := ⟨_, rfl⟩
   have hK2 : Blk w2 wr.heap.size (encF (x1, x2, x3, x4)).toArray 40 := by rw [← hw2]; exact hK0.put _
   have hb2 : Below wr.heap.size wr w2 := by rw [← hw2]; exact below_put (Nat.le_refl _) _ ((Below.refl _ wr).alloc (Nat.le_refl _) _)
   have HJ2 : Hid (J (L.take k) w2) := HAB.out _ wr w2 none HJ.out (grown_of_belowF hb2) (fun r e => by cases e)
   have HKB2 : Hid (KeepB [g] W w2) := HKB.out.trans (KeepB.of_below hb2 (by simpa using hg))
   have K0 := Lib.hid hK0
   have K2 := Lib.hid hK2
   have HW := Lib.hid hw2
   have HTK := Lib.hid htk
   clear hcells htk hK0 hK2 hw2 hb2 HJ HKB hfr
   obtain ⟨fn, tmps, assign, body, hy, hR⟩ := HY.out (L.take k) (x1, x2, x3, x4) w2 HJ2.out hpl
   have HR := Lib.hid hR
   clear hpl hkl hR
   gi_wp2_with (first
    | (refine wpListIn_store_rowF rfl 40 (.tmp 4) (.tmp 10) rfl wr.heap.size (encF (x1, x2, x3, x4)).toArray rfl rfl 40 (encF f0).toArray K0.out size_faF rfl (encF_all _) ?_; change wpListIn _ _ _ _ _ _ _ ((wr.alloc (.cells (encF f0).toArray 40)).setRow wr.heap.size (encF (x1, x2, x3, x4)).toArray); rw [HW.out])
    | (refine wpListIn_load_rowF rfl 40 (.tmp 4) rfl wr.heap.size rfl 40 (encF (x1, x2, x3, x4)).toArray (0, 0) _ K2.out Tryz.underlying40 rfl size_faF ?_))
   refine HR.out.mono ?_
   rintro e W3 (⟨rfl, hJ3, hk3⟩ | ⟨rfl, hJx3⟩)
   ·have HJ3 : Hid (J (L.take (k + 1)) W3) := by show J _ _; rw [HTK.out]; exact hJ3
    have HKB3 := Lib.hid (HKB2.out.trans hk3)
    clear hJ3 hk3 hy HR
    gi_wp2
    go_roundw
    case rel => exact ⟨k + 1, by omega, by go_num, HJ3, HKB3⟩
    case measure => simp [intOf]; omega
   ·have HJX : Hid (Jx (L.take (k + 1)) W3) := by show Jx _ _; rw [HTK.out]; exact hJx3
    clear hJx3 hy HR
    gi_wp2
    refine bodyPost_ret (results_none rfl _ _ _) rfl ?_
    exact ⟨⟨_, rfl⟩, .inr ⟨_, ⟨k + 1, by have := HN.out; omega, rfl⟩, HJX.out⟩⟩
  ·obtain rfl : k = n := by omega
   have hlti : ¬ (k : Int) < (k : Int) := by omega
   gi_wp2
   go_end0
   have h := HJ.out
   rw [show k = L.length from HN.out.symm, List.take_length] at h
   first | exact ⟨⟨_, rfl⟩, .inl h⟩ | exact ⟨⟨_, rfl⟩, .inl ⟨L, rfl, h⟩⟩
theorem ahd_stops (m : Nat) (hm : 1 ≤ m) (B g : Nat) (L : List Fa) (hLn : L.length ≤ 4398046510976) (w : World) (hat : AhdAt w B g L) :
  SeqStopsK Fence.wide m Tryz.prog 109 #[.pointer (some ⟨B, 0, none⟩)] (fun x : Fa => #[.agg (encF x).toArray]) (fun A B => Below w.heap.size A B)
   (fun ys => ys = L) (fun pre => ∃ k, k ≤ L.length ∧ pre = L.take k) L.length w := fun l J Jx W hW hA _ hY h0 => by
 have hat2 : AhdAt W B g L := by
  obtain ⟨oa, cap, hk, hrow⟩ := hat
  exact ⟨oa, cap, hk.below hW hk.lt, fun h => ⟨(hrow h).1, (hrow h).2.keep (hW.block g (hrow h).2.1) hW.size⟩⟩
 by_cases hL : L = []
 ·subst hL
  exact ahd_in m hm l B g [] hLn J Jx W hA (fun pre x W hJ hl => absurd hl (Nat.not_lt_zero _)) hat2 h0
 ·obtain ⟨oa, cap, hk, hrow⟩ := hat
  refine ahd_in m hm l B g L hLn J Jx W hA (fun pre x W hJ hl => ?_) hat2 h0
  obtain ⟨fn, tmps, assign, body, hy, hR⟩ := hY pre x W hJ hl
  refine ⟨fn, tmps, assign, body, hy, hR.mono ?_⟩
  rintro e W' (⟨h1, h2, h3⟩ | h)
  ·exact .inl ⟨h1, h2, KeepB.of_below h3 (by simpa using (hrow hL).2.1)⟩
  ·exact .inr h
theorem ahd_enters : ∀ args W, (callFunc 109 args).run Tryz.prog W = .ok (.enter 109 args) W := enters_of Tryz.func109 (by kernel_rfl) rfl
theorem fa_ahead_it (oa : Option Addr) (cap : Nat) (l : List Fa) (hl : l.length ≤ 4398046510976) (w : World) (ha : FsAt w oa l) :
  Calls Tryz.prog 66 #[.slice oa l.length cap] w fun e w' => ∃ (gf : Nat) (lb : Array Value) (L : List Fa), e = .returned (.func (.func gf) #[] lb) ∧ Below w.heap.size w w' ∧
   (∀ args W, (callFunc gf args).run Tryz.prog W = .ok (.enter gf args) W) ∧ Srt L ∧ StbF l L ∧ L.length = l.length ∧
   SeqStopsK Fence.wide 8 Tryz.prog gf lb (fun x : Fa => #[.agg (encF x).toArray]) (fun A B => Below w'.heap.size A B) (fun xs => xs = L) (fun pre => ∃ j, j ≤ L.length ∧ pre = L.take j) L.length w' := by
 refine (fa_ahead oa cap l hl w ha).mono ?_
 rintro e w' ⟨B, g, L, rfl, hat, hs, hst, hlen, _, hb⟩
 exact ⟨_, _, L, rfl, hb, ahd_enters, hs, hst, hlen, ahd_stops 8 (by decide) B g L (by omega) w' hat⟩
end Go.Proofs.YtalefbmoebobkaaGreatDoor
/- Package chip, walked: how many faults come ahead of a number. -/
namespace Go.Proofs.YtalefbmoebobkaaGreatDoor
set_option maxRecDepth 100000
open Go.RowKit Go.Shelf Go.Sort Go.Proofs
theorem wpList_load_mid_if {P : Program} {ops : Array Oper} {rest : List Oper} {op : Oper} {a : Act} {w : World} {Q : Exit → Act → World → Prop} (hw : Region.wanted op (yielded ops a.tmps) = true) (ty : TypeId) (x : Operand) (ho : op.op = .load ty x)
  (b o : Nat) (hx : a.eval x = .pointer (some ⟨b, o, none⟩)) (cs : List Value) (d : TypeDesc) (hc : w.rangeAt b o cs)
  (hu : P.underlying ty = some d) (hd : d.isRow = true) (hi : (P.info? ty).map (·.size) = some cs.length)
  (h : wpList P ops Q rest (a.put op.dst (.agg cs.toArray)) w) : wpList P ops Q (op :: rest) a w := by
 unfold wpList
 rw [if_pos hw]
 exact Or.inl (wp_load_mid ty x ho b o hx cs d hc hu hd hi h)
theorem ch_before1 (x : Fa) (t : Int) (W : World) : Calls Tryz.prog 151 #[.agg (encF x).toArray, .int .i64 t] W fun e w' => e = .returned (.int .i64 (Lib.compareInt x.1 t)) ∧ Below W.heap.size W w' := by
 obtain ⟨x1, x2, x3, x4⟩ := x
 have hcon : ∀ W', Calls Tryz.prog 108 #[.int .i64 x1, .int .i64 t] W' fun e w' => e = .returned (.int .i64 (Lib.compareInt x1 t)) ∧ w' = W' := fun W' => AnyG.cmp_Compare_int Tryz.cmpInt x1 t W'
 show Calls Tryz.prog 151 #[.agg #[.int .i64 x1, .int .i64 x2, .int .i64 x3, .int .i64 x4], .int .i64 t] W fun e w' => e = .returned (.int .i64 (Lib.compareInt x1 t)) ∧ Below W.heap.size W w'
 have HB : Hid (∀ X, Below W.heap.size W (W.alloc X)) := fun X => (Below.refl _ _).alloc (Nat.le_refl _) _
 generalize Lib.compareInt x1 t = r at hcon ⊢
 go_enter Tryz.func151, Tryz.ntmps151
 go_wp2_with (go_at_call 108; refine (hcon _).mono ?_; rintro e w' ⟨rfl, rfl⟩)
 go_ret
 exact ⟨rfl, HB.out _⟩
theorem cmp_neg (a b : Int) : (Lib.compareInt a b < 0) ↔ a < b := by
 unfold Lib.compareInt
 by_cases h1 : a < b
 ·simp [h1]
 ·by_cases h2 : b < a <;> simp [h1, h2]
def SrI (R : List Fa) (t : Int) (lo hi : Nat) : Prop := (∀ i (hi : i < R.length), i < lo → R[i].1 < t) ∧ (∀ i (h : i < R.length), hi ≤ i → t ≤ R[i].1)
theorem SrI.done {R : List Fa} {t : Int} {lo : Nat} (h : SrI R t lo lo) (hl : lo ≤ R.length) (hs : Srt R) : belowN R t = lo := by
 have hb := belowN_take hs t
 have hle := belowN_le R t
 rcases Nat.lt_trichotomy (belowN R t) lo with h1 | h1 | h1
 ·have hx := hb.2 (R[belowN R t]'(by omega)) (by rw [List.mem_iff_getElem]; exact ⟨0, by rw [List.length_drop]; omega, by rw [List.getElem_drop]; rfl⟩)
  have := h.1 (belowN R t) (by omega) h1
  omega
 ·exact h1
 ·have hx := hb.1 (R[lo]'(by omega)) (by rw [List.mem_iff_getElem]; exact ⟨lo, by rw [List.length_take]; omega, by rw [List.getElem_take]⟩)
  have := h.2 lo (by omega) (Nat.le_refl _)
  omega
theorem SrI.left {R : List Fa} {t : Int} {lo hi m : Nat} (h : SrI R t lo hi) (hs : Srt R) (hm : m < R.length) (hx : R[m].1 < t) : SrI R t (m + 1) hi :=
 ⟨fun i hi' hlt => by
  rcases Nat.lt_or_ge i m with h1 | h1
  ·have := List.pairwise_iff_getElem.1 hs i m hi' hm h1; omega
  ·obtain rfl : i = m := by omega
   exact hx, h.2⟩
theorem SrI.right {R : List Fa} {t : Int} {lo hi m : Nat} (h : SrI R t lo hi) (hs : Srt R) (hm : m < R.length) (hx : ¬ R[m].1 < t) : SrI R t lo m :=
 ⟨h.1, fun i hi' hle => by
  rcases Nat.lt_or_ge m i with h1 | h1
  ·have := List.pairwise_iff_getElem.1 hs m i hm hi' h1; omega
  ·obtain rfl : i = m := by omega
   omega⟩
def SearchT (R : List Fa) (t : Int) (w : World) (e : Ending) (w' : World) : Prop := (∃ b, e = .returned (.tuple #[.int .i64 (belowN R t : Nat), .bool b])) ∧ Below w.heap.size w w'
theorem SearchT.mk' {R : List Fa} {t : Int} {n : Nat} {w w' : World} {b : Bool} (h : belowN R t = n) (hb : Below w.heap.size w w') : SearchT R t w (.returned (.tuple #[.int .i64 (n : Nat), .bool b])) w' := ⟨⟨b, by rw [h]⟩, hb⟩
set_option maxHeartbeats 4000000 in
theorem ch_search (oa : Option Addr) (cap : Nat) (R : List Fa) (hl : R.length ≤ 4398046510976) (hs : Srt R) (t : Int) (w : World) (ha : FsAt w oa R) :
  Calls Tryz.prog 150 #[.slice oa R.length cap, .int .i64 t, .func (.func 151) #[] #[]] w (SearchT R t w) := by
 have eg : ∀ args w, (callFunc 151 args).run Tryz.prog w = .ok (.enter 151 args) w := enters_of Tryz.func151 (by kernel_rfl) rfl
 have HA := Lib.hid ha
 have HS := Lib.hid hs
 obtain ⟨n, hn⟩ : ∃ n, R.length = n := ⟨_, rfl⟩
 have HN := Lib.hid hn
 rw [hn] at hl ⊢
 clear ha hs hn
 go_enter Tryz.func150, Tryz.ntmps150
 go_wp2
 go_loopg [9, 10] n (fun kx s9 s10 wr => ∃ lo hi : Nat, s9 = .int .i64 lo ∧ s10 = .int .i64 hi ∧ lo ≤ hi ∧ hi ≤ n ∧ hi - lo ≤ kx ∧ Hid (Below w.heap.size w wr) ∧ Hid (SrI R t lo hi))
 case atStart => exact ⟨0, n, rfl, rfl, Nat.zero_le _, Nat.le_refl _, by omega, Below.refl _ _, ⟨fun i _ h => absurd h (Nat.not_lt_zero i), fun i h1 h2 => by have := HN.out; omega⟩⟩
 case round =>
  obtain ⟨lo, hi, rfl, rfl, hlh, hin, hg, HB, HI⟩ := hrel
  by_cases hlt : lo < hi
  ·have hml : (lo + hi) / 2 < R.length := by have := HN.out; omega
   obtain ⟨b, off, rfl, hb, hc⟩ := HA.out (fun e => by rw [e] at hml; simp at hml)
   obtain ⟨y, hy, hr⟩ : ∃ y, R[(lo + hi) / 2] = y ∧ wr.rangeAt b (off + (lo + hi) / 2 * 4) (encF y) := ⟨_, rfl, fun j v hj => by
    rw [World.cell?_of_block (w := w) (HB.out.block b hb)]; exact hc _ hml j v hj⟩
   have HR := Lib.hid hr
   have hcb := ch_before1 y t
   obtain ⟨q, hq⟩ : ∃ q, Lib.compareInt y.1 t = q := ⟨_, rfl⟩
   rw [hq] at hcb
   have hqy : q < 0 ↔ y.1 < t := by rw [← hq]; exact cmp_neg _ _
   have HLEFT : Hid (q < 0 → SrI R t ((lo + hi) / 2 + 1) hi) := fun h => HI.out.left HS.out hml (by rw [hy]; exact hqy.1 h)
   have HRIGHT : Hid (¬ q < 0 → SrI R t lo ((lo + hi) / 2)) := fun h => HI.out.right HS.out hml (by rw [hy]; exact fun h2 => h (hqy.2 h2))
   have HCB := Lib.hid hcb
   clear hr hc hq hcb hqy HI; clear hy
   by_cases hq0 : q < 0
   ·go_wp2_with (first
     | (refine wpList_load_mid rfl 40 _ rfl b (off + (lo + hi) / 2 * 4) rfl (encF y) _ HR.out Tryz.underlying40 rfl size_faF ?_)
     | (go_at_fn 151; refine (HCB.out _).mono ?_; rintro e w2 ⟨rfl, hb2⟩))
    go_roundg (hi - ((lo + hi) / 2 + 1))
    case measure => omega
    case rel => exact ⟨(lo + hi) / 2 + 1, hi, by rw [show ((lo : Int) + (hi : Int)) / 2 + 1 = (((lo + hi) / 2 + 1 : Nat) : Int) by omega], rfl, by omega, hin, Nat.le_refl _, HB.out.trans (hb2.mono HB.out.size), HLEFT.out hq0⟩
   ·go_wp2_with (first
     | (refine wpList_load_mid rfl 40 _ rfl b (off + (lo + hi) / 2 * 4) rfl (encF y) _ HR.out Tryz.underlying40 rfl size_faF ?_)
     | (go_at_fn 151; refine (HCB.out _).mono ?_; rintro e w2 ⟨rfl, hb2⟩))
    go_roundg ((lo + hi) / 2 - lo)
    case measure => omega
    case rel => exact ⟨lo, (lo + hi) / 2, rfl, by rw [show ((lo : Int) + (hi : Int)) / 2 = (((lo + hi) / 2 : Nat) : Int) by omega], by omega, by omega, Nat.le_refl _, HB.out.trans (hb2.mono HB.out.size), HRIGHT.out (by omega)⟩
  ·obtain rfl : hi = lo := by omega
   have hcnt : belowN R t = hi := HI.out.done (by have := HN.out; omega) HS.out
   have HCNT := Lib.hid hcnt
   clear hcnt HI
   by_cases hlt2 : hi < n
   ·have hml : hi < R.length := by have := HN.out; omega
    obtain ⟨b, off, rfl, hb, hc⟩ := HA.out (fun e => by rw [e] at hml; simp at hml)
    obtain ⟨y, hy, hr⟩ : ∃ y, R[hi] = y ∧ wr.rangeAt b (off + hi * 4) (encF y) := ⟨_, rfl, fun j v hj => by
     rw [World.cell?_of_block (w := w) (HB.out.block b hb)]; exact hc _ hml j v hj⟩
    have HR := Lib.hid hr
    have hcb := ch_before1 y t
    obtain ⟨q, hq⟩ : ∃ q, Lib.compareInt y.1 t = q := ⟨_, rfl⟩
    rw [hq] at hcb
    have HCB := Lib.hid hcb
    clear hr hc hq hcb; clear hy
    go_wp2_with (first
     | (refine wpList_load_mid_if (by kernel_rfl) 40 _ rfl b (off + hi * 4) rfl (encF y) _ HR.out Tryz.underlying40 rfl size_faF ?_)
     | (go_at_fn 151; refine (HCB.out _).mono ?_; rintro e w2 ⟨rfl, hb2⟩))
    go_ret2
    exact SearchT.mk' HCNT.out (HB.out.trans (hb2.mono HB.out.size))
   ·have hltz : ¬ (hi : Int) < (n : Int) := by omega
    go_wp2
    go_ret2
    exact SearchT.mk' HCNT.out HB.out
end Go.Proofs.YtalefbmoebobkaaGreatDoor
/- Package chip, walked: what is asked without an operation. -/
namespace Go.Proofs.YtalefbmoebobkaaGreatDoor
set_option maxRecDepth 100000
open Go.RowKit Go.Shelf Go.Proofs
theorem ch_has (o : Nat) (F : Nat → Prop) (c : ChS) (x : Int) (w : World) (h : ChAt w o F c) : Calls Tryz.prog 74 #[.pointer (some ⟨o, 0, none⟩), .int .i64 x] w fun e w' => e = .returned (.bool (decide (chHas c x))) ∧ w = w' := by
 obtain ⟨gc, kc, oa, R, ka, sx, sy, po, Fc, rfl, h⟩ := h
 have c6 : w.cell? ⟨o, 6, none⟩ = some (.slice (some ⟨gc, 0, none⟩) c.cs.length kc) := h.blk.cell 6
 unfold chHas
 clear h
 by_cases h0 : 0 ≤ x
 ·have e0 : decide (0 ≤ x ∧ x < (c.cs.length : Int)) = decide (x < (c.cs.length : Int)) := by rw [Bool.eq_iff_iff]; simp [h0]
  rw [e0]
  clear e0
  go_enter Tryz.func74, Tryz.ntmps74
  go_wp2
  all_goals go_ret
  all_goals exact ⟨rfl, rfl⟩
 ·have e0 : decide (0 ≤ x ∧ x < (c.cs.length : Int)) = false := decide_eq_false (by omega)
  rw [e0]
  clear e0
  go_enter Tryz.func74, Tryz.ntmps74
  go_wp2
  all_goals go_ret
  all_goals exact ⟨rfl, rfl⟩
theorem ch_off (o : Nat) (F : Nat → Prop) (c : ChS) (w : World) (h : ChAt w o F c) : Calls Tryz.prog 18 #[.pointer (some ⟨o, 0, none⟩)] w fun e w' => e = .returned (.bool c.off) ∧ w = w' := by
 obtain ⟨gc, kc, oa, R, ka, sx, sy, po, Fc, rfl, h⟩ := h
 have c1 : w.cell? ⟨o, 11, none⟩ = some (.bool c.off) := h.blk.cell 11
 clear h
 go_enter Tryz.func18, Tryz.ntmps18
 go_wp2
 go_ret
 exact ⟨rfl, rfl⟩
theorem ch_ops (o : Nat) (F : Nat → Prop) (c : ChS) (w : World) (h : ChAt w o F c) : Calls Tryz.prog 19 #[.pointer (some ⟨o, 0, none⟩)] w fun e w' => e = .returned (.int .i64 c.ops) ∧ w = w' := by
 obtain ⟨gc, kc, oa, R, ka, sx, sy, po, Fc, rfl, h⟩ := h
 have c1 : w.cell? ⟨o, 8, none⟩ = some (.int .i64 c.ops) := h.blk.cell 8
 clear h
 go_enter Tryz.func19, Tryz.ntmps19
 go_wp2
 go_ret
 exact ⟨rfl, rfl⟩
theorem ch_cuts (o : Nat) (F : Nat → Prop) (c : ChS) (w : World) (h : ChAt w o F c) : Calls Tryz.prog 20 #[.pointer (some ⟨o, 0, none⟩)] w fun e w' => e = .returned (.int .i64 c.cuts) ∧ w = w' := by
 obtain ⟨gc, kc, oa, R, ka, sx, sy, po, Fc, rfl, h⟩ := h
 have c1 : w.cell? ⟨o, 9, none⟩ = some (.int .i64 c.cuts) := h.blk.cell 9
 clear h
 go_enter Tryz.func20, Tryz.ntmps20
 go_wp2
 go_ret
 exact ⟨rfl, rfl⟩
theorem ch_rejects (o : Nat) (F : Nat → Prop) (c : ChS) (w : World) (h : ChAt w o F c) : Calls Tryz.prog 21 #[.pointer (some ⟨o, 0, none⟩)] w fun e w' => e = .returned (.int .i64 c.rej) ∧ w = w' := by
 obtain ⟨gc, kc, oa, R, ka, sx, sy, po, Fc, rfl, h⟩ := h
 have c1 : w.cell? ⟨o, 10, none⟩ = some (.int .i64 c.rej) := h.blk.cell 10
 clear h
 go_enter Tryz.func21, Tryz.ntmps21
 go_wp2
 go_ret
 exact ⟨rfl, rfl⟩
theorem blk_rng {w : World} {b : Nat} {cs : Array Value} {t : TypeId} (h : Blk w b cs t) (i : Nat) (l : List Value) (hl : ∀ j v, l[j]? = some v → cs[i + j]? = some v) : w.rangeAt b i l := fun j v hv => by
 rw [h.cell]; exact hl j v hv
def gmL (G : Gm) : List Value := [.int .i64 G.b, .int .i64 G.l, .int .i64 G.y, .int .i64 G.n, .int .i64 G.s, .int .i64 G.r]
theorem size_geoC : (Tryz.prog.info? 23).map (·.size) = some 6 := by kernel_rfl
theorem gmL_one (G : Gm) : (gmL G).toArray.all (·.oneCell') = true := by
 rw [Array.all_eq_true_iff_forall_mem]
 intro v hv
 simp [gmL] at hv
 rcases hv with rfl | rfl | rfl | rfl | rfl | rfl <;> rfl
theorem results_cell_ch {P : Program} {fn : Func} {p : Tmp} {ty : TypeId} (h : fn.results = #[.cell p ty]) (tmps : Array Value) (w : World) (g : Nat) (t : TypeId) (cs : Array Value) (d : TypeDesc)
  (hp : tmps.getD p undef = .pointer (some ⟨g, 0, none⟩)) (hg : Blk w g cs t)
  (hu : P.underlying ty = some d) (hd : (match d with | .struct _ | .array _ _ => true | _ => false) = true) (hi : (P.info? ty).map (·.size) = some cs.size) :
  (results fn tmps).run P w = .ok (.agg cs) w := by
 have hp' : tmps[p]?.getD undef = .pointer (some ⟨g, 0, none⟩) := by simpa using hp
 simp [results, h, hp', asAddr, run_loadVar_row w g t ty cs (0, 0) d hg hu hd hi]
theorem ch_geo (o : Nat) (F : Nat → Prop) (c : ChS) (w : World) (h : ChAt w o F c) : Calls Tryz.prog 58 #[.pointer (some ⟨o, 0, none⟩)] w fun e w' => e = .returned (.agg (gmL c.G).toArray) ∧ Below w.heap.size w w' := by
 obtain ⟨gc, kc, oa, R, ka, sx, sy, po, Fc, rfl, h⟩ := h
 have hb1 : Below w.heap.size w (w.alloc (.cells #[.int .i64 0, .int .i64 0, .int .i64 0, .int .i64 0, .int .i64 0, .int .i64 0] 23)) := (Below.refl _ _).alloc (Nat.le_refl _) _
 have HK := Lib.hid (Blk.new w #[.int .i64 0, .int .i64 0, .int .i64 0, .int .i64 0, .int .i64 0, .int .i64 0] 23)
 have hr : (w.alloc (.cells #[.int .i64 0, .int .i64 0, .int .i64 0, .int .i64 0, .int .i64 0, .int .i64 0] 23)).rangeAt o 0 (gmL c.G) := blk_rng (h.after hb1).blk 0 _ (fun j v hv => by
  have hj : j < 6 := (List.getElem?_eq_some_iff.1 hv).1
  obtain rfl | rfl | rfl | rfl | rfl | rfl : j = 0 ∨ j = 1 ∨ j = 2 ∨ j = 3 ∨ j = 4 ∨ j = 5 := by omega
  all_goals exact hv)
 have HR := Lib.hid hr
 have HB := Lib.hid hb1
 clear h hr hb1
 go_enter Tryz.func58, Tryz.ntmps58
 go_wp2_with (first
  | (refine wpList_load_mid rfl 23 (.tmp 5) rfl o 0 rfl (gmL c.G) _ HR.out Tryz.underlying23 rfl size_geoC ?_)
  | (refine wpList_store_row rfl 23 (.tmp 2) (.tmp 6) rfl w.heap.size (gmL c.G).toArray rfl rfl 23 _ HK.out size_geoC rfl (gmL_one _) ?_))
 exact bodyPost_ret (results_cell_ch (P := Tryz.prog) rfl _ _ w.heap.size 23 (gmL c.G).toArray _ rfl (HK.out.put _) Tryz.underlying23 rfl size_geoC) rfl ⟨rfl, below_put (Nat.le_refl _) _ HB.out⟩
theorem ChipAt.at {w : World} {o gc kc : Nat} {oa : Option Addr} {R : List Fa} {ka : Nat} {x y : Int} {po : Nat → Nat} {Fc : Nat → Nat → Prop} {c : ChS} (h : ChipAt w o gc kc oa R ka x y po Fc c) (i : Nat) (hi : i < c.cs.length) :
  w.cell? ⟨o, 6, none⟩ = some (.slice (some ⟨gc, 0, none⟩) c.cs.length kc) ∧ w.cell? ⟨gc, i, none⟩ = some (.pointer (some ⟨po i, 0, none⟩)) ∧ CellAt w (po i) (Fc i) (cellOf c i) := by
 refine ⟨h.blk.cell 6, h.row i hi, ?_⟩
 have e : cellOf c i = c.cs[i] := by unfold cellOf; rw [List.getD_eq_getElem?_getD, Int.toNat_natCast, List.getElem?_eq_getElem hi]; rfl
 rw [e]
 exact h.cell i hi
def badCh (c : ChS) (x : Int) : Bool := if chHas c x then (cellOf c x).bad else false
def modeCh (c : ChS) (x : Int) : Int := if chHas c x then (cellOf c x).mode else 0
def slcCh (c : ChS) (x : Int) : Int := if chHas c x then (cellOf c x).slc else 0
def tlcCh (c : ChS) (x : Int) : Int := if chHas c x then (cellOf c x).tlc else 0
def WfCs (c : ChS) : Prop := ∀ s ∈ c.cs, WfSt s
theorem WfCs.of {c : ChS} (h : WfCs c) {i : Nat} (hi : i < c.cs.length) : WfSt (cellOf c i) := by
 have e : cellOf c i = c.cs[i] := by unfold cellOf; rw [List.getD_eq_getElem?_getD, Int.toNat_natCast, List.getElem?_eq_getElem hi]; rfl
 rw [e]
 exact h _ (List.getElem_mem hi)
theorem ch_bad (o : Nat) (F : Nat → Prop) (c : ChS) (x : Int) (w : World) (hw : WfCs c) (h : ChAt w o F c) : Calls Tryz.prog 56 #[.pointer (some ⟨o, 0, none⟩), .int .i64 x] w fun e w' => e = .returned (.bool (badCh c x)) ∧ w = w' := by
 have hh := ch_has o F c x w h
 have HH := Lib.hid hh
 clear hh
 unfold badCh
 by_cases hx : chHas c x
 ·rw [if_pos hx]
  rw [decide_eq_true hx] at HH
  obtain ⟨i, rfl⟩ : ∃ i : Nat, x = i := ⟨x.toNat, by have := hx.1; omega⟩
  have hi : i < c.cs.length := by have := hx.2; omega
  obtain ⟨gc, kc, oa, R, ka, sx, sy, po, Fc, rfl, h⟩ := h
  obtain ⟨c6, ci, hc⟩ := h.at i hi
  have HB := Lib.hid (ce_bad (po i) (Fc i) (cellOf c i) w (hw.of hi) hc)
  obtain ⟨n, hn⟩ : ∃ n, c.cs.length = n := ⟨_, rfl⟩
  rw [hn] at c6 hi
  have hiz : (i : Int) < (n : Int) := by omega
  clear hx h hc hn hw
  go_enter Tryz.func56, Tryz.ntmps56
  go_wp2_with fail
  refine HH.out.mono ?_
  rintro e w1 ⟨rfl, rfl⟩
  go_wp2_with fail
  refine HB.out.mono ?_
  rintro e w1 ⟨rfl, rfl⟩
  go_wp2_with fail
  go_ret
  exact ⟨rfl, rfl⟩
 ·rw [if_neg hx]
  rw [decide_eq_false hx] at HH
  clear hx h hw
  go_enter Tryz.func56, Tryz.ntmps56
  go_wp2_with fail
  refine HH.out.mono ?_
  rintro e w1 ⟨rfl, rfl⟩
  go_wp2_with fail
  go_ret
  exact ⟨rfl, rfl⟩
theorem ch_mode (o : Nat) (F : Nat → Prop) (c : ChS) (x : Int) (w : World) (hw : WfCs c) (h : ChAt w o F c) : Calls Tryz.prog 57 #[.pointer (some ⟨o, 0, none⟩), .int .i64 x] w fun e w' => e = .returned (.int .i64 (modeCh c x)) ∧ w = w' := by
 have hh := ch_has o F c x w h
 have HH := Lib.hid hh
 clear hh
 unfold modeCh
 by_cases hx : chHas c x
 ·rw [if_pos hx]
  rw [decide_eq_true hx] at HH
  obtain ⟨i, rfl⟩ : ∃ i : Nat, x = i := ⟨x.toNat, by have := hx.1; omega⟩
  have hi : i < c.cs.length := by have := hx.2; omega
  obtain ⟨gc, kc, oa, R, ka, sx, sy, po, Fc, rfl, h⟩ := h
  obtain ⟨c6, ci, hc⟩ := h.at i hi
  have HB := Lib.hid (ce_mode (po i) (Fc i) (cellOf c i) w (hw.of hi) hc)
  obtain ⟨n, hn⟩ : ∃ n, c.cs.length = n := ⟨_, rfl⟩
  rw [hn] at c6 hi
  have hiz : (i : Int) < (n : Int) := by omega
  clear hx h hc hn hw
  go_enter Tryz.func57, Tryz.ntmps57
  go_wp2_with fail
  refine HH.out.mono ?_
  rintro e w1 ⟨rfl, rfl⟩
  go_wp2_with fail
  refine HB.out.mono ?_
  rintro e w1 ⟨rfl, rfl⟩
  go_wp2_with fail
  go_ret
  exact ⟨rfl, rfl⟩
 ·rw [if_neg hx]
  rw [decide_eq_false hx] at HH
  clear hx h hw
  go_enter Tryz.func57, Tryz.ntmps57
  go_wp2_with fail
  refine HH.out.mono ?_
  rintro e w1 ⟨rfl, rfl⟩
  go_wp2_with fail
  go_ret
  exact ⟨rfl, rfl⟩
theorem ch_wear (o : Nat) (F : Nat → Prop) (c : ChS) (x : Int) (w : World) (hw : WfCs c) (h : ChAt w o F c) : Calls Tryz.prog 55 #[.pointer (some ⟨o, 0, none⟩), .int .i64 x] w fun e w' => e = .returned (.tuple #[.int .i64 (slcCh c x), .int .i64 (tlcCh c x)]) ∧ Below w.heap.size w w' := by
 have hh := ch_has o F c x w h
 have HH := Lib.hid hh
 clear hh
 unfold slcCh tlcCh
 by_cases hx : chHas c x
 ·rw [if_pos hx, if_pos hx]
  rw [decide_eq_true hx] at HH
  obtain ⟨i, rfl⟩ : ∃ i : Nat, x = i := ⟨x.toNat, by have := hx.1; omega⟩
  have hi : i < c.cs.length := by have := hx.2; omega
  obtain ⟨gc, kc, oa, R, ka, sx, sy, po, Fc, rfl, h⟩ := h
  obtain ⟨c6, ci, hc⟩ := h.at i hi
  have HB := Lib.hid (ce_counts (po i) (Fc i) (cellOf c i) w (hw.of hi) hc)
  obtain ⟨n, hn⟩ : ∃ n, c.cs.length = n := ⟨_, rfl⟩
  rw [hn] at c6 hi
  have hiz : (i : Int) < (n : Int) := by omega
  clear hx h hc hn hw
  go_enter Tryz.func55, Tryz.ntmps55
  go_wp2_with fail
  refine HH.out.mono ?_
  rintro e w1 ⟨rfl, rfl⟩
  go_wp2_with fail
  refine HB.out.mono ?_
  rintro e w1 ⟨rfl, hb⟩
  have HB1 := Lib.hid hb
  clear hb HB
  go_wp2_with fail
  go_ret2
  exact ⟨rfl, HB1.out⟩
 ·rw [if_neg hx, if_neg hx]
  rw [decide_eq_false hx] at HH
  clear hx h hw
  go_enter Tryz.func55, Tryz.ntmps55
  go_wp2_with fail
  refine HH.out.mono ?_
  rintro e w1 ⟨rfl, rfl⟩
  go_wp2_with fail
  go_ret2
  exact ⟨rfl, Below.refl _ _⟩
end Go.Proofs.YtalefbmoebobkaaGreatDoor
