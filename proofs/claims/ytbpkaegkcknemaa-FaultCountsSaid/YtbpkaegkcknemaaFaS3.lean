/- slices.symMergeCmpFunc at faults, walked: the first row is of one. Written by wip/tools/mkfas2.py. -/
import Derived.Test.YtbpkaegkcknemaaFaS2
namespace Go.Proofs.Ytbpkaegkcknemaa
set_option maxRecDepth 100000
open Go.Shelf Go.RowKit Go.Lib Go.Sort Go.Proofs

set_option maxHeartbeats 40000000 in
set_option maxRecDepth 1000000 in
theorem sw_sym1 {P : Program} {k : Nat} (L : Prg P k) (g : Nat) (cb : Array Value) (eg : ∀ args w, (callFunc g args).run P w = .ok (.enter g args) w) (blk off cap : Nat) (d0 : Array Fa) (w0 : World) (hcmp : CmpLays P g cb encF k cfF blk off d0.size w0) (R : RowK encF k w0 blk off d0)
    (N a m b : Nat) (d : Array Fa) (A X Y B : List Fa) (w : World) (IH : SymC P k g cb blk off cap d0 w0 N) (_ : b - a ≤ N + 1) (hs : d0.size = d.size) (S : SWK encF k w0 blk off d w) (_ : a < m) (hmb : m < b) (hsz : d.size < 1152921504606846976) (hL : SyL a m b d A X Y B) (h1 : m = a + 1) :
    Calls P 39 #[.slice (some ⟨blk, off, none⟩) d.size cap, .int .i64 a, .int .i64 m, .int .i64 b, .func (.func g) #[] cb] w fun e w' => e = .returned (.tuple #[]) ∧ ∃ d' : Array Fa, d'.size = d.size ∧ SyE A X Y B d' ∧ SWK encF k w0 blk off d' w' := by
  have mixed := L.mixed; have t0 := L.t0; have a0 := L.a0; have z0 := L.z0; have v0 := L.v0; have t3 := L.t3; have a3 := L.a3; have z3 := L.z3; have v3 := L.v3; have t4 := L.t4; have a4 := L.a4; have z4 := L.z4; have v4 := L.v4; have t22 := L.t22; have a22 := L.a22; have z22 := L.z22; have v22 := L.v22; have t48 := L.t48; have a48 := L.a48; have z48 := L.z48; have v48 := L.v48; have t58 := L.t58; have a58 := L.a58; have z58 := L.z58; have v58 := L.v58
  have aE := L.aF; have zE := L.zF
  have FG := L.fSy
  have eRo : ∀ args w, (callFunc 40 args).run P w = .ok (.enter 40 args) w := enters_of L.fRo (by kernel_rfl) rfl
  have eSy : ∀ args w, (callFunc 39 args).run P w = .ok (.enter 39 args) w := enters_of L.fSy (by kernel_rfl) rfl
  have hb := hL.size
  have HC : Aside _ := hcmp
  have HIH : Aside (SymC P k g cb blk off cap d0 w0 N) := IH
  have HL : Aside (SyL a m b d A X Y B) := hL
  have S0 : Aside (SWK encF k w0 blk off d w) := S
  clear hcmp S hL IH
  have h1z : (m : Int) - (a : Int) = 1 := by omega
  have h1a : m ≤ a + 1 := by omega
  obtain ⟨x, hX, hx, hM⟩ := HL.out.one_start h1
  have XX : Aside (X = [x] ∧ d[a]! = x) := ⟨hX, hx⟩
  have M0 : Aside (MvR A x Y B 0 d) := hM
  clear hX hx hM
  clear h1
  go_enter FG, Try.ntmps39
  go_wp2
  go_loopg [10, 11] (b - m) (fun kx s10 s11 wr => ∃ p q : Nat, s10 = .int .i64 p ∧ s11 = .int .i64 q ∧ m ≤ p ∧ p ≤ q ∧ q ≤ b ∧ q - p ≤ kx ∧ Aside (SWK encF k w0 blk off d wr) ∧ Aside ((m < p → d[p - 1]!.1 < x.1) ∧ (q < b → x.1 ≤ d[q]!.1)))
  case atStart => exact ⟨m, b, rfl, rfl, Nat.le_refl _, by omega, Nat.le_refl _, Nat.le_refl _, S0, ⟨fun h => by omega, fun h => by omega⟩⟩
  case round =>
    clear S0
    obtain ⟨p, q, rfl, rfl, hmp, hpq, hqb, hkx, S1, E1⟩ := hrel
    by_cases hlt : p < q
    · have hltz : (p : Int) < (q : Int) := by omega
      by_cases hv : d[(p + q) / 2]!.1 < x.1
      · have hv2 : d[(p + q) / 2]!.1 < d[a]!.1 := by rw [XX.out.2]; exact hv
        have ea24 : (((p : Int) + (q : Int)) / 2).toNat = (p + q) / 2 := by omega
        have pa24 : (0 : Int) ≤ ((p : Int) + (q : Int)) / 2 := by omega
        have ba24 : ((p : Int) + (q : Int)) / 2 < (d.size : Int) := by omega
        have ra24 : IntKind.i64.wrap (((p : Int) + (q : Int)) / 2) = ((p : Int) + (q : Int)) / 2 := by rw [IntKind.wrap_i64]; omega
        have ea24c : ((a : Int)).toNat = a := by omega
        have pa24c : (0 : Int) ≤ (a : Int) := by omega
        have ba24c : (a : Int) < (d.size : Int) := by omega
        have ra24c : IntKind.i64.wrap ((a : Int)) = (a : Int) := by rw [IntKind.wrap_i64]; omega
        obtain ⟨x24, hx24⟩ : ∃ x, x = d[(p + q) / 2]! := ⟨_, rfl⟩
        obtain ⟨y24, hy24⟩ : ∃ x, x = d[a]! := ⟨_, rfl⟩
        have l24a := S1.out.ld R (by omega) P ((p + q) / 2) (by omega)
        have l24b := S1.out.ld R (by omega) P (a) (by omega)
        rw [← hx24] at l24a
        rw [← hy24] at l24b
        have hc24 := S1.out.cmp HC.out (by omega) x24 y24
        have hv24 : cfF x24 y24 < 0 := by rw [hx24, hy24]; exact (cf_lt _ _).2 hv2
        have hd24 : decide (cfF x24 y24 < 0) = true := decide_eq_true hv24
        clear hx24 hy24
        go_wp2_with fail
        go_quiet_grown (first | (go_at_fn g; refine Calls.grown_of (hc24 _ _)))
        have S2 : Aside (SWK encF k w0 blk off d (grow (wr.drewN nq) osq)) := S1.out.grown nq osq
        clear l24a l24b hc24 S1
        generalize grow (wr.drewN nq) osq = w2 at S2 ⊢
        clear nq osq
        go_wp2
        go_roundg (q - ((p + q) / 2 + 1))
        case measure => omega
        case rel =>
          have E2 : Aside ((m < (p + q) / 2 + 1 → d[(p + q) / 2 + 1 - 1]!.1 < x.1) ∧ (q < b → x.1 ≤ d[q]!.1)) := ⟨fun _ => hv, E1.out.2⟩
          exact ⟨(p + q) / 2 + 1, q, by rw [show ((p : Int) + (q : Int)) / 2 + 1 = (((p + q) / 2 + 1 : Nat) : Int) by omega], rfl, by omega, by omega, hqb, Nat.le_refl _, S2, E2⟩
      · have hv2 : ¬ d[(p + q) / 2]!.1 < d[a]!.1 := by rw [XX.out.2]; exact hv
        have ea24 : (((p : Int) + (q : Int)) / 2).toNat = (p + q) / 2 := by omega
        have pa24 : (0 : Int) ≤ ((p : Int) + (q : Int)) / 2 := by omega
        have ba24 : ((p : Int) + (q : Int)) / 2 < (d.size : Int) := by omega
        have ra24 : IntKind.i64.wrap (((p : Int) + (q : Int)) / 2) = ((p : Int) + (q : Int)) / 2 := by rw [IntKind.wrap_i64]; omega
        have ea24c : ((a : Int)).toNat = a := by omega
        have pa24c : (0 : Int) ≤ (a : Int) := by omega
        have ba24c : (a : Int) < (d.size : Int) := by omega
        have ra24c : IntKind.i64.wrap ((a : Int)) = (a : Int) := by rw [IntKind.wrap_i64]; omega
        obtain ⟨x24, hx24⟩ : ∃ x, x = d[(p + q) / 2]! := ⟨_, rfl⟩
        obtain ⟨y24, hy24⟩ : ∃ x, x = d[a]! := ⟨_, rfl⟩
        have l24a := S1.out.ld R (by omega) P ((p + q) / 2) (by omega)
        have l24b := S1.out.ld R (by omega) P (a) (by omega)
        rw [← hx24] at l24a
        rw [← hy24] at l24b
        have hc24 := S1.out.cmp HC.out (by omega) x24 y24
        have hv24 : ¬ cfF x24 y24 < 0 := by rw [hx24, hy24]; exact fun h => hv2 ((cf_lt _ _).1 h)
        have hd24 : decide (cfF x24 y24 < 0) = false := decide_eq_false hv24
        clear hx24 hy24
        go_wp2_with fail
        go_quiet_grown (first | (go_at_fn g; refine Calls.grown_of (hc24 _ _)))
        have S2 : Aside (SWK encF k w0 blk off d (grow (wr.drewN nq) osq)) := S1.out.grown nq osq
        clear l24a l24b hc24 S1
        generalize grow (wr.drewN nq) osq = w2 at S2 ⊢
        clear nq osq
        go_wp2
        go_roundg ((p + q) / 2 - p)
        case measure => omega
        case rel =>
          have E2 : Aside ((m < p → d[p - 1]!.1 < x.1) ∧ ((p + q) / 2 < b → x.1 ≤ d[(p + q) / 2]!.1)) := ⟨E1.out.1, fun _ => by omega⟩
          exact ⟨p, (p + q) / 2, rfl, by rw [show ((p : Int) + (q : Int)) / 2 = (((p + q) / 2 : Nat) : Int) by omega], hmp, by omega, by omega, Nat.le_refl _, S2, E2⟩
    · obtain rfl : p = q := by omega
      have hltz : ¬ (p : Int) < (p : Int) := by omega
      go_wp2
      go_loopg [13] (p - 1 - a) (fun kx s13 wr => ∃ (u : Nat) (dk : Array Fa), s13 = .int .i64 u ∧ a ≤ u ∧ u ≤ p - 1 ∧ p - 1 - u ≤ kx ∧ dk.size = d.size ∧ Aside (SWK encF k w0 blk off dk wr) ∧ Aside (MvR A x Y B (u - a) dk))
      case atStart => exact ⟨a, d, rfl, Nat.le_refl _, by omega, Nat.le_refl _, rfl, S1, by rw [Nat.sub_self]; exact M0⟩
      case round =>
        clear S1
        obtain ⟨u, dk, rfl, hau, hup, hkx2, hds, S1, M1⟩ := hrel
        by_cases hlt2 : u < p - 1
        · have hlt2z : (u : Int) < (p : Int) - 1 := by omega
          have hlY : u - a < Y.length := by have := HL.out.eb; omega
          have M2 : Aside (MvR A x Y B (u + 1 - a) (swp dk u (u + 1))) := by
            have h := M1.out.step hlY HL.out.ea
            rw [show a + (u - a) = u by omega, show u - a + 1 = u + 1 - a by omega] at h
            exact h
          have ea44 : ((u : Int)).toNat = u := by omega
          have pa44 : (0 : Int) ≤ (u : Int) := by omega
          have ba44 : (u : Int) < (d.size : Int) := by omega
          have ra44 : IntKind.i64.wrap ((u : Int)) = (u : Int) := by rw [IntKind.wrap_i64]; omega
          have ea44c : ((u : Int) + 1).toNat = u + 1 := by omega
          have pa44c : (0 : Int) ≤ (u : Int) + 1 := by omega
          have ba44c : (u : Int) + 1 < (d.size : Int) := by omega
          have ra44c : IntKind.i64.wrap ((u : Int) + 1) = (u : Int) + 1 := by rw [IntKind.wrap_i64]; omega
          have S2 : Aside (SWK encF k w0 blk off (swp dk (u) (u + 1)) ((wr.drew.setCells blk (off + (u) * k) (encF dk[u + 1]!)).setCells blk (off + (u + 1) * k) (encF dk[u]!))) := S1.out.swapped R (u) (u + 1) (by omega) (by omega)
          have l44a := S1.out.ld1 R (by omega) P (u) (by omega)
          have l44b := S1.out.ld1 R (by omega) P (u + 1) (by omega)
          have s44a := S1.out.st1 R (by omega) P (u) (by omega) dk[u + 1]!
          have s44b := S1.out.st2 R (by omega) P (u) (u + 1) (by omega) (by omega) dk[u + 1]! dk[u]!
          have n44a : (encF dk[u]!).length = k := R.hk _
          have n44b : (encF dk[u + 1]!).length = k := R.hk _
          generalize encF dk[u]! = cI44 at S2 l44a s44b n44a
          generalize encF dk[u + 1]! = cJ44 at S2 l44b s44a s44b n44b
          clear S1
          go_wp2_with fail
          go_big_region_o
          clear l44a l44b s44a s44b
          generalize (wr.drew.setCells blk (off + (u) * k) cJ44).setCells blk (off + (u + 1) * k) cI44 = w2 at S2 ⊢
          have hz2 : (swp dk u (u + 1)).size = d.size := by rw [size_swp]; exact hds
          go_wp2
          go_roundg (p - 1 - (u + 1))
          case measure => omega
          case rel => exact ⟨u + 1, swp dk u (u + 1), by go_num, by omega, by omega, Nat.le_refl _, hz2, S2, M2⟩
        · have hlt2z : ¬ (u : Int) < (p : Int) - 1 := by omega
          go_wp2
          (try simp only [Exit.inBlock, Exit.then]); refine bodyPost_ret (results_none rfl _ _ _) rfl ?_
          refine ⟨rfl, dk, hds, ?_, S1.out⟩
          exact HL.out.one_end XX.out.1 XX.out.2 hmp hqb E1.out.1 E1.out.2 (by have := M1.out; rwa [show u - a = p - m by omega] at this)

end Go.Proofs.Ytbpkaegkcknemaa
