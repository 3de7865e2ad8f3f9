/- Texts of one claim, merged: FaS7, FaS4, FaS5. -/
import Derived.Test.YtlijndkpgmbapaaGreatDoorS9

/- slices.symMergeCmpFunc at faults, walked: the second row is of one. Written by wip/tools/mkfas2.py. -/
namespace Go.Proofs.YtlijndkpgmbapaaGreatDoor
set_option maxRecDepth 100000
open Go.Shelf Go.RowKit Go.Lib Go.Sort Go.Proofs

set_option maxHeartbeats 40000000 in
set_option maxRecDepth 1000000 in
theorem sw_sym2 {P : Program} {k : Nat} (L : Prg P k) (g : Nat) (cb : Array Value) (eg : ∀ args w, (callFunc g args).run P w = .ok (.enter g args) w) (blk off cap : Nat) (d0 : Array Fa) (w0 : World) (hcmp : CmpLays P g cb encF k cfF blk off d0.size w0) (R : RowK encF k w0 blk off d0)
    (N a m b : Nat) (d : Array Fa) (A X Y B : List Fa) (w : World) (IH : SymC P k g cb blk off cap d0 w0 N) (_ : b - a ≤ N + 1) (hs : d0.size = d.size) (S : SWK encF k w0 blk off d w) (ham : a < m) (_ : m < b) (hsz : d.size < 1152921504606846976) (hL : SyL a m b d A X Y B) (h1 : ¬ m = a + 1) (h2 : b = m + 1) :
    Calls P 169 #[.slice (some ⟨blk, off, none⟩) d.size cap, .int .i64 a, .int .i64 m, .int .i64 b, .func (.func g) #[] cb] w fun e w' => e = .returned (.tuple #[]) ∧ ∃ d' : Array Fa, d'.size = d.size ∧ SyE A X Y B d' ∧ SWK encF k w0 blk off d' w' := by
  have mixed := L.mixed; have t0 := L.t0; have a0 := L.a0; have z0 := L.z0; have v0 := L.v0; have t3 := L.t3; have a3 := L.a3; have z3 := L.z3; have v3 := L.v3; have t4 := L.t4; have a4 := L.a4; have z4 := L.z4; have v4 := L.v4; have t22 := L.t22; have a22 := L.a22; have z22 := L.z22; have v22 := L.v22; have t48 := L.t48; have a48 := L.a48; have z48 := L.z48; have v48 := L.v48; have t58 := L.t58; have a58 := L.a58; have z58 := L.z58; have v58 := L.v58
  have aE := L.aF; have zE := L.zF
  have FG := L.fSy
  have eRo : ∀ args w, (callFunc 172 args).run P w = .ok (.enter 172 args) w := enters_of L.fRo (by kernel_rfl) rfl
  have eSy : ∀ args w, (callFunc 169 args).run P w = .ok (.enter 169 args) w := enters_of L.fSy (by kernel_rfl) rfl
  have hb := hL.size
  have HC : Aside _ := hcmp
  have HIH : Aside (SymC P k g cb blk off cap d0 w0 N) := IH
  have HL : Aside (SyL a m b d A X Y B) := hL
  have S0 : Aside (SWK encF k w0 blk off d w) := S
  clear hcmp S hL IH
  have h1z : ¬ (m : Int) - (a : Int) = 1 := by omega
  have h1b : ((m : Int) - (a : Int) == 1) = false := by simp; omega
  have h2z : (b : Int) - (m : Int) = 1 := by omega
  have h2a : b ≤ m + 1 := by omega
  obtain ⟨x, hX, hx, hM⟩ := HL.out.last_start h2
  have XX : Aside (Y = [x] ∧ d[m]! = x) := ⟨hX, hx⟩
  have M0 : Aside (MvR A x X B (m - a) d) := hM
  clear hX hx hM
  clear h1 h2
  go_enter FG, Tryz.ntmps169
  go_wp2
  go_loopg [14, 15] (m - a) (fun kx s10 s11 wr => ∃ p q : Nat, s10 = .int .i64 p ∧ s11 = .int .i64 q ∧ a ≤ p ∧ p ≤ q ∧ q ≤ m ∧ q - p ≤ kx ∧ Aside (SWK encF k w0 blk off d wr) ∧ Aside ((a < p → d[p - 1]!.1 ≤ x.1) ∧ (q < m → x.1 < d[q]!.1)))
  case atStart => exact ⟨a, m, rfl, rfl, Nat.le_refl _, by omega, Nat.le_refl _, Nat.le_refl _, S0, ⟨fun h => by omega, fun h => by omega⟩⟩
  case round =>
    clear S0
    obtain ⟨p, q, rfl, rfl, hmp, hpq, hqb, hkx, S1, E1⟩ := hrel
    by_cases hlt : p < q
    · have hltz : (p : Int) < (q : Int) := by omega
      by_cases hv : x.1 < d[(p + q) / 2]!.1
      · have hv2 : d[m]!.1 < d[(p + q) / 2]!.1 := by rw [XX.out.2]; exact hv
        have ea24 : ((m : Int)).toNat = m := by omega
        have pa24 : (0 : Int) ≤ (m : Int) := by omega
        have ba24 : (m : Int) < (d.size : Int) := by omega
        have ra24 : IntKind.i64.wrap ((m : Int)) = (m : Int) := by rw [IntKind.wrap_i64]; omega
        have ea24c : (((p : Int) + (q : Int)) / 2).toNat = (p + q) / 2 := by omega
        have pa24c : (0 : Int) ≤ ((p : Int) + (q : Int)) / 2 := by omega
        have ba24c : ((p : Int) + (q : Int)) / 2 < (d.size : Int) := by omega
        have ra24c : IntKind.i64.wrap (((p : Int) + (q : Int)) / 2) = ((p : Int) + (q : Int)) / 2 := by rw [IntKind.wrap_i64]; omega
        obtain ⟨x24, hx24⟩ : ∃ x, x = d[m]! := ⟨_, rfl⟩
        obtain ⟨y24, hy24⟩ : ∃ x, x = d[(p + q) / 2]! := ⟨_, rfl⟩
        have l24a := S1.out.ld R (by omega) P (m) (by omega)
        have l24b := S1.out.ld R (by omega) P ((p + q) / 2) (by omega)
        rw [← hx24] at l24a
        rw [← hy24] at l24b
        have hc24 := S1.out.cmp HC.out (by omega) x24 y24
        have hv24 : cfF x24 y24 < 0 := by rw [hx24, hy24]; exact (cf_lt _ _).2 hv2
        have hd24 : decide (cfF x24 y24 < 0) = true := decide_eq_true hv24
        clear hx24 hy24
        go_wp2_with fail
        go_quiet_grown (first | (go_at_fn g; refine Calls.grown_of (hc24 _ _)))
        have S2 : Aside (SWK encF k w0 blk off d (grow (wr.drewN nq) osq)) := S1.out.grown nq osq
        clear l24a l24b hc24 S1
        generalize grow (wr.drewN nq) osq = w2 at S2 ⊢
        clear nq osq
        go_wp2
        go_roundg ((p + q) / 2 - p)
        case measure => omega
        case rel =>
          have E2 : Aside ((a < p → d[p - 1]!.1 ≤ x.1) ∧ ((p + q) / 2 < m → x.1 < d[(p + q) / 2]!.1)) := ⟨E1.out.1, fun _ => hv⟩
          exact ⟨p, (p + q) / 2, rfl, by rw [show ((p : Int) + (q : Int)) / 2 = (((p + q) / 2 : Nat) : Int) by omega], hmp, by omega, by omega, Nat.le_refl _, S2, E2⟩
      · have hv2 : ¬ d[m]!.1 < d[(p + q) / 2]!.1 := by rw [XX.out.2]; exact hv
        have ea24 : ((m : Int)).toNat = m := by omega
        have pa24 : (0 : Int) ≤ (m : Int) := by omega
        have ba24 : (m : Int) < (d.size : Int) := by omega
        have ra24 : IntKind.i64.wrap ((m : Int)) = (m : Int) := by rw [IntKind.wrap_i64]; omega
        have ea24c : (((p : Int) + (q : Int)) / 2).toNat = (p + q) / 2 := by omega
        have pa24c : (0 : Int) ≤ ((p : Int) + (q : Int)) / 2 := by omega
        have ba24c : ((p : Int) + (q : Int)) / 2 < (d.size : Int) := by omega
        have ra24c : IntKind.i64.wrap (((p : Int) + (q : Int)) / 2) = ((p : Int) + (q : Int)) / 2 := by rw [IntKind.wrap_i64]; omega
        obtain ⟨x24, hx24⟩ : ∃ x, x = d[m]! := ⟨_, rfl⟩
        obtain ⟨y24, hy24⟩ : ∃ x, x = d[(p + q) / 2]! := ⟨_, rfl⟩
        have l24a := S1.out.ld R (by omega) P (m) (by omega)
        have l24b := S1.out.ld R (by omega) P ((p + q) / 2) (by omega)
        rw [← hx24] at l24a
        rw [← hy24] at l24b
        have hc24 := S1.out.cmp HC.out (by omega) x24 y24
        have hv24 : ¬ cfF x24 y24 < 0 := by rw [hx24, hy24]; exact fun h => hv2 ((cf_lt _ _).1 h)
        have hd24 : decide (cfF x24 y24 < 0) = false := decide_eq_false hv24
        clear hx24 hy24
        go_wp2_with fail
        go_quiet_grown (first | (go_at_fn g; refine Calls.grown_of (hc24 _ _)))
        have S2 : Aside (SWK encF k w0 blk off d (grow (wr.drewN nq) osq)) := S1.out.grown nq osq
        clear l24a l24b hc24 S1
        generalize grow (wr.drewN nq) osq = w2 at S2 ⊢
        clear nq osq
        go_wp2
        go_roundg (q - ((p + q) / 2 + 1))
        case measure => omega
        case rel =>
          have E2 : Aside ((a < (p + q) / 2 + 1 → d[(p + q) / 2 + 1 - 1]!.1 ≤ x.1) ∧ (q < m → x.1 < d[q]!.1)) := ⟨fun _ => by rw [Nat.add_sub_cancel]; omega, E1.out.2⟩
          exact ⟨(p + q) / 2 + 1, q, by rw [show ((p : Int) + (q : Int)) / 2 + 1 = (((p + q) / 2 + 1 : Nat) : Int) by omega], rfl, by omega, by omega, hqb, Nat.le_refl _, S2, E2⟩
    · obtain rfl : p = q := by omega
      have hltz : ¬ (p : Int) < (p : Int) := by omega
      go_wp2
      go_loopg [17] (m - p) (fun kx s13 wr => ∃ (u : Nat) (dk : Array Fa), s13 = .int .i64 u ∧ p ≤ u ∧ u ≤ m ∧ u - p ≤ kx ∧ dk.size = d.size ∧ Aside (SWK encF k w0 blk off dk wr) ∧ Aside (MvR A x X B (u - a) dk))
      case atStart => exact ⟨m, d, rfl, by omega, Nat.le_refl _, Nat.le_refl _, rfl, S1, M0⟩
      case round =>
        clear S1
        obtain ⟨u1, dk, rfl, hpu, hum, hkx2, hds, S1, M1⟩ := hrel
        by_cases hlt2 : p < u1
        · have hlt2z : (p : Int) < (u1 : Int) := by omega
          obtain ⟨u, rfl⟩ : ∃ u, u1 = u + 1 := ⟨u1 - 1, by omega⟩
          have hlt3z : (p : Int) < (u : Int) + 1 := by omega
          have M2 : Aside (MvR A x X B (u - a) (swp dk (u + 1) u)) := by
            have h := M1.out
            rw [show u + 1 - a = u - a + 1 by omega] at h
            have h := h.back HL.out.ea
            rw [show a + (u - a) = u by omega] at h
            exact h
          have ea44 : ((u : Int) + 1).toNat = u + 1 := by omega
          have pa44 : (0 : Int) ≤ (u : Int) + 1 := by omega
          have ba44 : (u : Int) + 1 < (d.size : Int) := by omega
          have ra44 : IntKind.i64.wrap ((u : Int) + 1) = (u : Int) + 1 := by rw [IntKind.wrap_i64]; omega
          have ea44c : ((u : Int)).toNat = u := by omega
          have pa44c : (0 : Int) ≤ (u : Int) := by omega
          have ba44c : (u : Int) < (d.size : Int) := by omega
          have ra44c : IntKind.i64.wrap ((u : Int)) = (u : Int) := by rw [IntKind.wrap_i64]; omega
          have S2 : Aside (SWK encF k w0 blk off (swp dk (u + 1) (u)) ((wr.drew.setCells blk (off + (u + 1) * k) (encF dk[u]!)).setCells blk (off + (u) * k) (encF dk[u + 1]!))) := S1.out.swapped R (u + 1) (u) (by omega) (by omega)
          have l44a := S1.out.ld1 R (by omega) P (u + 1) (by omega)
          have l44b := S1.out.ld1 R (by omega) P (u) (by omega)
          have s44a := S1.out.st1 R (by omega) P (u + 1) (by omega) dk[u]!
          have s44b := S1.out.st2 R (by omega) P (u + 1) (u) (by omega) (by omega) dk[u]! dk[u + 1]!
          have n44a : (encF dk[u + 1]!).length = k := R.hk _
          have n44b : (encF dk[u]!).length = k := R.hk _
          generalize encF dk[u + 1]! = cI44 at S2 l44a s44b n44a
          generalize encF dk[u]! = cJ44 at S2 l44b s44a s44b n44b
          clear S1
          go_wp2_with fail
          go_big_region_o
          clear l44a l44b s44a s44b
          generalize (wr.drew.setCells blk (off + (u + 1) * k) cJ44).setCells blk (off + (u) * k) cI44 = w2 at S2 ⊢
          have hz2 : (swp dk (u + 1) u).size = d.size := by rw [size_swp]; exact hds
          go_wp2
          go_roundg (u - p)
          case measure => omega
          case rel => exact ⟨u, swp dk (u + 1) u, by go_num, by omega, by omega, Nat.le_refl _, hz2, S2, M2⟩
        · have hlt2z : ¬ (p : Int) < (u1 : Int) := by omega
          go_wp2
          (try simp only [Exit.inBlock, Exit.then]); refine bodyPost_ret (results_none rfl _ _ _) rfl ?_
          refine ⟨rfl, dk, hds, ?_, S1.out⟩
          exact HL.out.last_end XX.out.1 hmp hqb (by rw [← XX.out.2] ; rw [XX.out.2]; exact E1.out.1) E1.out.2 (by have := M1.out; rwa [show u1 - a = p - a by omega] at this)

end Go.Proofs.YtlijndkpgmbapaaGreatDoor

/- slices.symMergeCmpFunc at faults, walked: the rows are cut, and each half is merged: the first row is the longer. Written by wip/tools/mkfas2.py. -/
namespace Go.Proofs.YtlijndkpgmbapaaGreatDoor
set_option maxRecDepth 100000
open Go.Shelf Go.RowKit Go.Lib Go.Sort Go.Proofs

set_option maxHeartbeats 40000000 in
set_option maxRecDepth 1000000 in
theorem sw_sym3 {P : Program} {k : Nat} (L : Prg P k) (g : Nat) (cb : Array Value) (eg : ∀ args w, (callFunc g args).run P w = .ok (.enter g args) w) (blk off cap : Nat) (d0 : Array Fa) (w0 : World) (hcmp : CmpLays P g cb encF k cfF blk off d0.size w0) (R : RowK encF k w0 blk off d0)
    (N a m b : Nat) (d : Array Fa) (A X Y B : List Fa) (w : World) (IH : SymC P k g cb blk off cap d0 w0 N) (hN : b - a ≤ N + 1) (hs : d0.size = d.size) (S : SWK encF k w0 blk off d w) (ham : a < m) (hmb : m < b) (hsz : d.size < 1152921504606846976) (hL : SyL a m b d A X Y B) (_ : ¬ m = a + 1) (_ : ¬ b = m + 1) (_ : (a + b) / 2 < m) :
    Calls P 169 #[.slice (some ⟨blk, off, none⟩) d.size cap, .int .i64 a, .int .i64 m, .int .i64 b, .func (.func g) #[] cb] w fun e w' => e = .returned (.tuple #[]) ∧ ∃ d' : Array Fa, d'.size = d.size ∧ SyE A X Y B d' ∧ SWK encF k w0 blk off d' w' := by
  have mixed := L.mixed; have t0 := L.t0; have a0 := L.a0; have z0 := L.z0; have v0 := L.v0; have t3 := L.t3; have a3 := L.a3; have z3 := L.z3; have v3 := L.v3; have t4 := L.t4; have a4 := L.a4; have z4 := L.z4; have v4 := L.v4; have t22 := L.t22; have a22 := L.a22; have z22 := L.z22; have v22 := L.v22; have t48 := L.t48; have a48 := L.a48; have z48 := L.z48; have v48 := L.v48; have t58 := L.t58; have a58 := L.a58; have z58 := L.z58; have v58 := L.v58
  have aE := L.aF; have zE := L.zF
  have FG := L.fSy
  have eRo : ∀ args w, (callFunc 172 args).run P w = .ok (.enter 172 args) w := enters_of L.fRo (by kernel_rfl) rfl
  have eSy : ∀ args w, (callFunc 169 args).run P w = .ok (.enter 169 args) w := enters_of L.fSy (by kernel_rfl) rfl
  have hb := hL.size
  have HC : Aside _ := hcmp
  have HIH : Aside (SymC P k g cb blk off cap d0 w0 N) := IH
  have HL : Aside (SyL a m b d A X Y B) := hL
  have S0 : Aside (SWK encF k w0 blk off d w) := S
  clear hcmp S hL IH
  have h1z : ¬ (m : Int) - (a : Int) = 1 := by omega
  have h1b : ((m : Int) - (a : Int) == 1) = false := by simp; omega
  have h2z : ¬ (b : Int) - (m : Int) = 1 := by omega
  have h2b : ((b : Int) - (m : Int) == 1) = false := by simp; omega
  obtain ⟨mid, hmid⟩ : ∃ mid, mid = (a + b) / 2 := ⟨_, rfl⟩
  have hmz : ((a : Int) + (b : Int)) / 2 = (mid : Int) := by omega
  have HM : Hid (mid = (a + b) / 2) := hmid
  have hm1 : a < mid := by omega
  have hm2 : mid < b := by omega
  have hm3 : 2 * mid ≤ a + b := by omega
  have hm4 : a + b ≤ 2 * mid + 1 := by omega
  have hmm : mid < m := by omega
  clear hmid
  have hmmz : (mid : Int) < (m : Int) := by omega
  have hmmb : decide ((mid : Int) < (m : Int)) = true := decide_eq_true hmmz
  obtain ⟨s0, hs0⟩ : ∃ s0, s0 = mid + m - b := ⟨_, rfl⟩
  have hs0z : (mid : Int) + (m : Int) - (b : Int) = (s0 : Int) := by omega
  have HS0 : Hid (s0 = mid + m - b) := hs0
  have hs1 : a ≤ s0 := by omega
  have hs2 : s0 ≤ mid := by omega
  have hs3 : mid + m ≤ s0 + b := by omega
  have hs4 : s0 + b ≤ mid + m := by omega
  clear hs0
  go_enter FG, Tryz.ntmps169
  go_wp2
  go_loopg [20, 21] (mid - s0) (fun kx s10 s11 wr => ∃ p q : Nat, s10 = .int .i64 p ∧ s11 = .int .i64 q ∧ s0 ≤ p ∧ p ≤ q ∧ q ≤ mid ∧ q - p ≤ kx ∧ Aside (SWK encF k w0 blk off d wr) ∧ Aside ((s0 < p → d[p - 1]!.1 ≤ d[mid + m - p]!.1) ∧ (q < mid → d[mid + m - 1 - q]!.1 < d[q]!.1)))
  case atStart => exact ⟨s0, mid, rfl, rfl, Nat.le_refl _, by omega, Nat.le_refl _, Nat.le_refl _, S0, ⟨fun h => by omega, fun h => by omega⟩⟩
  case round =>
    clear S0
    obtain ⟨p, q, rfl, rfl, hmp, hpq, hqb, hkx, S1, E1⟩ := hrel
    by_cases hlt : p < q
    · have hltz : (p : Int) < (q : Int) := by omega
      have hq1 : (p + q) / 2 + 1 ≤ mid + m := by omega
      obtain ⟨jx, hjx⟩ : ∃ jx, jx = mid + m - 1 - (p + q) / 2 := ⟨_, rfl⟩
      have HJ : Hid (jx = mid + m - 1 - (p + q) / 2) := hjx
      have hjz : (mid : Int) + (m : Int) - 1 - ((p : Int) + (q : Int)) / 2 = (jx : Int) := by omega
      have hjw : IntKind.i64.wrap ((mid : Int) + (m : Int) - 1 - ((p : Int) + (q : Int)) / 2) = (jx : Int) := by rw [IntKind.wrap_i64]; omega
      have hjb : jx < b := by omega
      clear hjx
      by_cases hv : d[jx]!.1 < d[(p + q) / 2]!.1
      · have hv0 : True := trivial
        have ea24 : ((jx : Int)).toNat = jx := by omega
        have pa24 : (0 : Int) ≤ (jx : Int) := by omega
        have ba24 : (jx : Int) < (d.size : Int) := by omega
        have ra24 : IntKind.i64.wrap ((jx : Int)) = (jx : Int) := by rw [IntKind.wrap_i64]; omega
        have ea24c : (((p : Int) + (q : Int)) / 2).toNat = (p + q) / 2 := by omega
        have pa24c : (0 : Int) ≤ ((p : Int) + (q : Int)) / 2 := by omega
        have ba24c : ((p : Int) + (q : Int)) / 2 < (d.size : Int) := by omega
        have ra24c : IntKind.i64.wrap (((p : Int) + (q : Int)) / 2) = ((p : Int) + (q : Int)) / 2 := by rw [IntKind.wrap_i64]; omega
        obtain ⟨x24, hx24⟩ : ∃ x, x = d[jx]! := ⟨_, rfl⟩
        obtain ⟨y24, hy24⟩ : ∃ x, x = d[(p + q) / 2]! := ⟨_, rfl⟩
        have l24a := S1.out.ld R (by omega) P (jx) (by omega)
        have l24b := S1.out.ld R (by omega) P ((p + q) / 2) (by omega)
        rw [← hx24] at l24a
        rw [← hy24] at l24b
        have hc24 := S1.out.cmp HC.out (by omega) x24 y24
        have hv24 : cfF x24 y24 < 0 := by rw [hx24, hy24]; exact (cf_lt _ _).2 hv
        have hd24 : decide (cfF x24 y24 < 0) = true := decide_eq_true hv24
        clear hx24 hy24
        go_wp2_with fail
        go_quiet_grown (first | (go_at_fn g; refine Calls.grown_of (hc24 _ _)))
        have S2 : Aside (SWK encF k w0 blk off d (grow (wr.drewN nq) osq)) := S1.out.grown nq osq
        clear l24a l24b hc24 S1
        generalize grow (wr.drewN nq) osq = w2 at S2 ⊢
        clear nq osq
        go_wp2
        go_roundg ((p + q) / 2 - p)
        case measure => omega
        case rel =>
          have E2 : Aside ((s0 < p → d[p - 1]!.1 ≤ d[mid + m - p]!.1) ∧ ((p + q) / 2 < mid → d[mid + m - 1 - (p + q) / 2]!.1 < d[(p + q) / 2]!.1)) := ⟨E1.out.1, fun _ => by rw [← HJ.out]; exact hv⟩
          exact ⟨p, (p + q) / 2, rfl, by rw [show ((p : Int) + (q : Int)) / 2 = (((p + q) / 2 : Nat) : Int) by omega], hmp, by omega, by omega, Nat.le_refl _, S2, E2⟩
      · have hv0 : True := trivial
        have ea24 : ((jx : Int)).toNat = jx := by omega
        have pa24 : (0 : Int) ≤ (jx : Int) := by omega
        have ba24 : (jx : Int) < (d.size : Int) := by omega
        have ra24 : IntKind.i64.wrap ((jx : Int)) = (jx : Int) := by rw [IntKind.wrap_i64]; omega
        have ea24c : (((p : Int) + (q : Int)) / 2).toNat = (p + q) / 2 := by omega
        have pa24c : (0 : Int) ≤ ((p : Int) + (q : Int)) / 2 := by omega
        have ba24c : ((p : Int) + (q : Int)) / 2 < (d.size : Int) := by omega
        have ra24c : IntKind.i64.wrap (((p : Int) + (q : Int)) / 2) = ((p : Int) + (q : Int)) / 2 := by rw [IntKind.wrap_i64]; omega
        obtain ⟨x24, hx24⟩ : ∃ x, x = d[jx]! := ⟨_, rfl⟩
        obtain ⟨y24, hy24⟩ : ∃ x, x = d[(p + q) / 2]! := ⟨_, rfl⟩
        have l24a := S1.out.ld R (by omega) P (jx) (by omega)
        have l24b := S1.out.ld R (by omega) P ((p + q) / 2) (by omega)
        rw [← hx24] at l24a
        rw [← hy24] at l24b
        have hc24 := S1.out.cmp HC.out (by omega) x24 y24
        have hv24 : ¬ cfF x24 y24 < 0 := by rw [hx24, hy24]; exact fun h => hv ((cf_lt _ _).1 h)
        have hd24 : decide (cfF x24 y24 < 0) = false := decide_eq_false hv24
        clear hx24 hy24
        go_wp2_with fail
        go_quiet_grown (first | (go_at_fn g; refine Calls.grown_of (hc24 _ _)))
        have S2 : Aside (SWK encF k w0 blk off d (grow (wr.drewN nq) osq)) := S1.out.grown nq osq
        clear l24a l24b hc24 S1
        generalize grow (wr.drewN nq) osq = w2 at S2 ⊢
        clear nq osq
        go_wp2
        go_roundg (q - ((p + q) / 2 + 1))
        case measure => omega
        case rel =>
          have E2 : Aside ((s0 < (p + q) / 2 + 1 → d[(p + q) / 2 + 1 - 1]!.1 ≤ d[mid + m - ((p + q) / 2 + 1)]!.1) ∧ (q < mid → d[mid + m - 1 - q]!.1 < d[q]!.1)) := ⟨fun _ => by rw [Nat.add_sub_cancel, show mid + m - ((p + q) / 2 + 1) = jx by rw [HJ.out]; omega]; omega, E1.out.2⟩
          exact ⟨(p + q) / 2 + 1, q, by rw [show ((p : Int) + (q : Int)) / 2 + 1 = (((p + q) / 2 + 1 : Nat) : Int) by omega], rfl, by omega, by omega, hqb, Nat.le_refl _, S2, E2⟩
    · obtain rfl : p = q := by omega
      have hltz : ¬ (p : Int) < (p : Int) := by omega
      obtain ⟨X1, X2, Y1, Y2, hX, hY, l1, l2, l3, l4, h21, h12⟩ := HL.out.found ham hmb HM.out (Or.inl ⟨hmm, HS0.out, rfl⟩) hmp hqb E1.out.1 E1.out.2
      have lA := HL.out.ea
      have sX := HL.out.sX
      have sY := HL.out.sY
      have hl0 := HL.out.h
      rw [hX] at sX hl0
      rw [hY] at sY hl0
      obtain ⟨e, he⟩ : ∃ e, e = mid + m - p := ⟨_, rfl⟩
      have hez : (mid : Int) + (m : Int) - (p : Int) = (e : Int) := by omega
      rw [← he] at l3 l4
      have hp1 : a ≤ p := by omega
      have hp2 : p ≤ m := by omega
      have hp3 : p ≤ mid := by omega
      have he1 : m ≤ e := by omega
      have he2 : e ≤ b := by omega
      have he3 : mid ≤ e := by omega
      have he4 : e + p = mid + m := by omega
      have LN : Aside (X1.length = p - a ∧ X2.length = m - p ∧ Y1.length = e - m ∧ Y2.length = b - e ∧ a = A.length) := ⟨l1, l2, l3, l4, lA⟩
      have ORD : Aside (Srt (X1 ++ X2) ∧ Srt (Y1 ++ Y2) ∧ (∀ y ∈ Y1, ∀ x ∈ X2, y.1 < x.1) ∧ (∀ x ∈ X1, ∀ y ∈ Y2, x.1 ≤ y.1)) := ⟨sX, sY, h21, h12⟩
      have L0 : Aside (d.toList = A ++ (X1 ++ X2) ++ (Y1 ++ Y2) ++ B) := hl0
      subst hX hY
      clear l1 l2 l3 l4 lA sX sY hl0 h21 h12 he E1
      by_cases hr : p < m ∧ m < e
      · have hry : (p : Int) < (m : Int) := by omega
        have hrz : (m : Int) < (e : Int) := by omega
        by_cases hs1 : a < p ∧ p < mid
        · have hs1y : (a : Int) < (p : Int) := by omega
          have hs1z : (p : Int) < (mid : Int) := by omega
          by_cases hsb : mid < e ∧ e < b
          · have hsby : (mid : Int) < (e : Int) := by omega
            have hsbz : (e : Int) < (b : Int) := by omega
            first
              | (exfalso; omega)
              | (
                have hcall := sw_rotate L g cb blk off cap p m e d0 d (A ++ X1 ++ Y1 ++ X2 ++ Y2 ++ B) w0 wr R hs S1.out hr.1 hr.2 (by omega) (by omega) ⟨A ++ X1, X2, Y1, Y2 ++ B, by rw [L0.out]; simp only [List.append_assoc], LN.out.2.1.symm, LN.out.2.2.1.symm, by have := LN.out; simp; omega, by simp only [List.append_assoc]⟩
                clear S1
                go_wp2_with fail
                refine hcall.mono ?_
                rintro r w1 ⟨rfl, d1, hz1, hl1, S2'⟩
                have S2 : Aside (SWK encF k w0 blk off d1 w1) := S2'
                have L1 : Aside (d1.toList = A ++ X1 ++ Y1 ++ X2 ++ Y2 ++ B) := hl1
                clear hcall hl1 S2'
                have hcall := HIH.out a p mid d1 A X1 Y1 (X2 ++ Y2 ++ B) _ (by omega) (by omega) S2.out hs1.1 hs1.2 (by omega) ⟨by rw [L1.out]; simp only [List.append_assoc], LN.out.2.2.2.2, by have := LN.out; omega, by have := LN.out; omega, ORD.out.1.left, ORD.out.2.1.left⟩
                rw [hz1] at hcall
                clear S2
                go_wp2_with fail
                refine hcall.mono ?_
                rintro r w2 ⟨rfl, d2, hz2, ⟨Z1, hl2, hZ1, hst1⟩, S3'⟩
                have S3 : Aside (SWK encF k w0 blk off d2 w2) := S3'
                have hzl := half_len L1.out hl2 (by omega)
                have L2 : Aside (d2.toList = A ++ Z1 ++ X2 ++ Y2 ++ B ∧ Z1.length = X1.length + Y1.length ∧ Srt Z1 ∧ StbF (X1 ++ Y1) Z1) := ⟨by rw [hl2]; simp only [List.append_assoc], hzl, hZ1, hst1⟩
                clear hcall hl2 hZ1 hst1 S3' hzl
                have hzd : d2.size = d.size := by omega
                have hcall := HIH.out mid e b d2 (A ++ Z1) X2 Y2 B _ (by omega) (by omega) S3.out hsb.1 hsb.2 (by omega) ⟨L2.out.1, by have := LN.out; have := L2.out.2.1; rw [List.length_append]; omega, by have := LN.out; omega, by have := LN.out; omega, ORD.out.1.right, ORD.out.2.1.right⟩
                rw [hzd] at hcall
                clear S3
                go_wp2_with fail
                refine hcall.mono ?_
                rintro r w3 ⟨rfl, d3, hz3, ⟨Z2, hl3, hZ2, hst2⟩, S4'⟩
                have S4 : Aside (SWK encF k w0 blk off d3 w3) := S4'
                have L3 : Aside (SyE A (X1 ++ X2) (Y1 ++ Y2) B d3) := sym_end ORD.out.1 ORD.out.2.1 ORD.out.2.2.1 ORD.out.2.2.2 L2.out.2.2 ⟨hZ2, hst2⟩ hl3
                clear hcall hl3 hZ2 hst2 S4'
                go_wp2_with fail
                go_end0
                exact ⟨rfl, d3, by omega, L3.out, S4.out⟩)
          · by_cases hsbw : mid < e
            · have hsby : (mid : Int) < (e : Int) := by omega
              have hsbz : ¬ (e : Int) < (b : Int) := by omega
              first
                | (exfalso; omega)
                | (
                  have hcall := sw_rotate L g cb blk off cap p m e d0 d (A ++ X1 ++ Y1 ++ X2 ++ Y2 ++ B) w0 wr R hs S1.out hr.1 hr.2 (by omega) (by omega) ⟨A ++ X1, X2, Y1, Y2 ++ B, by rw [L0.out]; simp only [List.append_assoc], LN.out.2.1.symm, LN.out.2.2.1.symm, by have := LN.out; simp; omega, by simp only [List.append_assoc]⟩
                  clear S1
                  go_wp2_with fail
                  refine hcall.mono ?_
                  rintro r w1 ⟨rfl, d1, hz1, hl1, S2'⟩
                  have S2 : Aside (SWK encF k w0 blk off d1 w1) := S2'
                  have L1 : Aside (d1.toList = A ++ X1 ++ Y1 ++ X2 ++ Y2 ++ B) := hl1
                  clear hcall hl1 S2'
                  have hcall := HIH.out a p mid d1 A X1 Y1 (X2 ++ Y2 ++ B) _ (by omega) (by omega) S2.out hs1.1 hs1.2 (by omega) ⟨by rw [L1.out]; simp only [List.append_assoc], LN.out.2.2.2.2, by have := LN.out; omega, by have := LN.out; omega, ORD.out.1.left, ORD.out.2.1.left⟩
                  rw [hz1] at hcall
                  clear S2
                  go_wp2_with fail
                  refine hcall.mono ?_
                  rintro r w2 ⟨rfl, d2, hz2, ⟨Z1, hl2, hZ1, hst1⟩, S3'⟩
                  have S3 : Aside (SWK encF k w0 blk off d2 w2) := S3'
                  have hzl := half_len L1.out hl2 (by omega)
                  have L2 : Aside (d2.toList = A ++ Z1 ++ X2 ++ Y2 ++ B ∧ Z1.length = X1.length + Y1.length ∧ Srt Z1 ∧ StbF (X1 ++ Y1) Z1) := ⟨by rw [hl2]; simp only [List.append_assoc], hzl, hZ1, hst1⟩
                  clear hcall hl2 hZ1 hst1 S3' hzl
                  have L3 : Aside (SyE A (X1 ++ X2) (Y1 ++ Y2) B d2) := sym_end ORD.out.1 ORD.out.2.1 ORD.out.2.2.1 ORD.out.2.2.2 L2.out.2.2 ⟨half_same (by have := LN.out; omega) ORD.out.1.right ORD.out.2.1.right, StbF.refl _⟩ (by rw [L2.out.1]; simp only [List.append_assoc])
                  go_wp2_with fail
                  go_end0
                  exact ⟨rfl, d2, by omega, L3.out, S3.out⟩)
            · have hsby : ¬ (mid : Int) < (e : Int) := by omega
              first
                | (exfalso; omega)
                | (
                  have hcall := sw_rotate L g cb blk off cap p m e d0 d (A ++ X1 ++ Y1 ++ X2 ++ Y2 ++ B) w0 wr R hs S1.out hr.1 hr.2 (by omega) (by omega) ⟨A ++ X1, X2, Y1, Y2 ++ B, by rw [L0.out]; simp only [List.append_assoc], LN.out.2.1.symm, LN.out.2.2.1.symm, by have := LN.out; simp; omega, by simp only [List.append_assoc]⟩
                  clear S1
                  go_wp2_with fail
                  refine hcall.mono ?_
                  rintro r w1 ⟨rfl, d1, hz1, hl1, S2'⟩
                  have S2 : Aside (SWK encF k w0 blk off d1 w1) := S2'
                  have L1 : Aside (d1.toList = A ++ X1 ++ Y1 ++ X2 ++ Y2 ++ B) := hl1
                  clear hcall hl1 S2'
                  have hcall := HIH.out a p mid d1 A X1 Y1 (X2 ++ Y2 ++ B) _ (by omega) (by omega) S2.out hs1.1 hs1.2 (by omega) ⟨by rw [L1.out]; simp only [List.append_assoc], LN.out.2.2.2.2, by have := LN.out; omega, by have := LN.out; omega, ORD.out.1.left, ORD.out.2.1.left⟩
                  rw [hz1] at hcall
                  clear S2
                  go_wp2_with fail
                  refine hcall.mono ?_
                  rintro r w2 ⟨rfl, d2, hz2, ⟨Z1, hl2, hZ1, hst1⟩, S3'⟩
                  have S3 : Aside (SWK encF k w0 blk off d2 w2) := S3'
                  have hzl := half_len L1.out hl2 (by omega)
                  have L2 : Aside (d2.toList = A ++ Z1 ++ X2 ++ Y2 ++ B ∧ Z1.length = X1.length + Y1.length ∧ Srt Z1 ∧ StbF (X1 ++ Y1) Z1) := ⟨by rw [hl2]; simp only [List.append_assoc], hzl, hZ1, hst1⟩
                  clear hcall hl2 hZ1 hst1 S3' hzl
                  have L3 : Aside (SyE A (X1 ++ X2) (Y1 ++ Y2) B d2) := sym_end ORD.out.1 ORD.out.2.1 ORD.out.2.2.1 ORD.out.2.2.2 L2.out.2.2 ⟨half_same (by have := LN.out; omega) ORD.out.1.right ORD.out.2.1.right, StbF.refl _⟩ (by rw [L2.out.1]; simp only [List.append_assoc])
                  go_wp2_with fail
                  go_end0
                  exact ⟨rfl, d2, by omega, L3.out, S3.out⟩)
        · by_cases hs1w : a < p
          · have hs1y : (a : Int) < (p : Int) := by omega
            have hs1z : ¬ (p : Int) < (mid : Int) := by omega
            by_cases hsb : mid < e ∧ e < b
            · have hsby : (mid : Int) < (e : Int) := by omega
              have hsbz : (e : Int) < (b : Int) := by omega
              first
                | (exfalso; omega)
                | (
                  have hcall := sw_rotate L g cb blk off cap p m e d0 d (A ++ X1 ++ Y1 ++ X2 ++ Y2 ++ B) w0 wr R hs S1.out hr.1 hr.2 (by omega) (by omega) ⟨A ++ X1, X2, Y1, Y2 ++ B, by rw [L0.out]; simp only [List.append_assoc], LN.out.2.1.symm, LN.out.2.2.1.symm, by have := LN.out; simp; omega, by simp only [List.append_assoc]⟩
                  clear S1
                  go_wp2_with fail
                  refine hcall.mono ?_
                  rintro r w1 ⟨rfl, d1, hz1, hl1, S2'⟩
                  have S2 : Aside (SWK encF k w0 blk off d1 w1) := S2'
                  have L1 : Aside (d1.toList = A ++ X1 ++ Y1 ++ X2 ++ Y2 ++ B) := hl1
                  clear hcall hl1 S2'
                  have L2 : Aside (d1.toList = A ++ (X1 ++ Y1) ++ X2 ++ Y2 ++ B ∧ (X1 ++ Y1).length = X1.length + Y1.length ∧ Srt (X1 ++ Y1) ∧ StbF (X1 ++ Y1) (X1 ++ Y1)) := ⟨by rw [L1.out]; simp only [List.append_assoc], List.length_append, half_same (by have := LN.out; omega) ORD.out.1.left ORD.out.2.1.left, StbF.refl _⟩
                  have hzd : d1.size = d.size := by omega
                  have hcall := HIH.out mid e b d1 (A ++ (X1 ++ Y1)) X2 Y2 B _ (by omega) (by omega) S2.out hsb.1 hsb.2 (by omega) ⟨L2.out.1, by have := LN.out; have := L2.out.2.1; rw [List.length_append]; omega, by have := LN.out; omega, by have := LN.out; omega, ORD.out.1.right, ORD.out.2.1.right⟩
                  rw [hzd] at hcall
                  clear S2
                  go_wp2_with fail
                  refine hcall.mono ?_
                  rintro r w3 ⟨rfl, d3, hz3, ⟨Z2, hl3, hZ2, hst2⟩, S4'⟩
                  have S4 : Aside (SWK encF k w0 blk off d3 w3) := S4'
                  have L3 : Aside (SyE A (X1 ++ X2) (Y1 ++ Y2) B d3) := sym_end ORD.out.1 ORD.out.2.1 ORD.out.2.2.1 ORD.out.2.2.2 L2.out.2.2 ⟨hZ2, hst2⟩ hl3
                  clear hcall hl3 hZ2 hst2 S4'
                  go_wp2_with fail
                  go_end0
                  exact ⟨rfl, d3, by omega, L3.out, S4.out⟩)
            · by_cases hsbw : mid < e
              · have hsby : (mid : Int) < (e : Int) := by omega
                have hsbz : ¬ (e : Int) < (b : Int) := by omega
                first
                  | (exfalso; omega)
                  | (
                    have hcall := sw_rotate L g cb blk off cap p m e d0 d (A ++ X1 ++ Y1 ++ X2 ++ Y2 ++ B) w0 wr R hs S1.out hr.1 hr.2 (by omega) (by omega) ⟨A ++ X1, X2, Y1, Y2 ++ B, by rw [L0.out]; simp only [List.append_assoc], LN.out.2.1.symm, LN.out.2.2.1.symm, by have := LN.out; simp; omega, by simp only [List.append_assoc]⟩
                    clear S1
                    go_wp2_with fail
                    refine hcall.mono ?_
                    rintro r w1 ⟨rfl, d1, hz1, hl1, S2'⟩
                    have S2 : Aside (SWK encF k w0 blk off d1 w1) := S2'
                    have L1 : Aside (d1.toList = A ++ X1 ++ Y1 ++ X2 ++ Y2 ++ B) := hl1
                    clear hcall hl1 S2'
                    have L2 : Aside (d1.toList = A ++ (X1 ++ Y1) ++ X2 ++ Y2 ++ B ∧ (X1 ++ Y1).length = X1.length + Y1.length ∧ Srt (X1 ++ Y1) ∧ StbF (X1 ++ Y1) (X1 ++ Y1)) := ⟨by rw [L1.out]; simp only [List.append_assoc], List.length_append, half_same (by have := LN.out; omega) ORD.out.1.left ORD.out.2.1.left, StbF.refl _⟩
                    have L3 : Aside (SyE A (X1 ++ X2) (Y1 ++ Y2) B d1) := sym_end ORD.out.1 ORD.out.2.1 ORD.out.2.2.1 ORD.out.2.2.2 L2.out.2.2 ⟨half_same (by have := LN.out; omega) ORD.out.1.right ORD.out.2.1.right, StbF.refl _⟩ (by rw [L2.out.1]; simp only [List.append_assoc])
                    go_wp2_with fail
                    go_end0
                    exact ⟨rfl, d1, by omega, L3.out, S2.out⟩)
              · have hsby : ¬ (mid : Int) < (e : Int) := by omega
                first
                  | (exfalso; omega)
                  | (
                    have hcall := sw_rotate L g cb blk off cap p m e d0 d (A ++ X1 ++ Y1 ++ X2 ++ Y2 ++ B) w0 wr R hs S1.out hr.1 hr.2 (by omega) (by omega) ⟨A ++ X1, X2, Y1, Y2 ++ B, by rw [L0.out]; simp only [List.append_assoc], LN.out.2.1.symm, LN.out.2.2.1.symm, by have := LN.out; simp; omega, by simp only [List.append_assoc]⟩
                    clear S1
                    go_wp2_with fail
                    refine hcall.mono ?_
                    rintro r w1 ⟨rfl, d1, hz1, hl1, S2'⟩
                    have S2 : Aside (SWK encF k w0 blk off d1 w1) := S2'
                    have L1 : Aside (d1.toList = A ++ X1 ++ Y1 ++ X2 ++ Y2 ++ B) := hl1
                    clear hcall hl1 S2'
                    have L2 : Aside (d1.toList = A ++ (X1 ++ Y1) ++ X2 ++ Y2 ++ B ∧ (X1 ++ Y1).length = X1.length + Y1.length ∧ Srt (X1 ++ Y1) ∧ StbF (X1 ++ Y1) (X1 ++ Y1)) := ⟨by rw [L1.out]; simp only [List.append_assoc], List.length_append, half_same (by have := LN.out; omega) ORD.out.1.left ORD.out.2.1.left, StbF.refl _⟩
                    have L3 : Aside (SyE A (X1 ++ X2) (Y1 ++ Y2) B d1) := sym_end ORD.out.1 ORD.out.2.1 ORD.out.2.2.1 ORD.out.2.2.2 L2.out.2.2 ⟨half_same (by have := LN.out; omega) ORD.out.1.right ORD.out.2.1.right, StbF.refl _⟩ (by rw [L2.out.1]; simp only [List.append_assoc])
                    go_wp2_with fail
                    go_end0
                    exact ⟨rfl, d1, by omega, L3.out, S2.out⟩)
          · have hs1y : ¬ (a : Int) < (p : Int) := by omega
            by_cases hsb : mid < e ∧ e < b
            · have hsby : (mid : Int) < (e : Int) := by omega
              have hsbz : (e : Int) < (b : Int) := by omega
              first
                | (exfalso; omega)
                | (
                  have hcall := sw_rotate L g cb blk off cap p m e d0 d (A ++ X1 ++ Y1 ++ X2 ++ Y2 ++ B) w0 wr R hs S1.out hr.1 hr.2 (by omega) (by omega) ⟨A ++ X1, X2, Y1, Y2 ++ B, by rw [L0.out]; simp only [List.append_assoc], LN.out.2.1.symm, LN.out.2.2.1.symm, by have := LN.out; simp; omega, by simp only [List.append_assoc]⟩
                  clear S1
                  go_wp2_with fail
                  refine hcall.mono ?_
                  rintro r w1 ⟨rfl, d1, hz1, hl1, S2'⟩
                  have S2 : Aside (SWK encF k w0 blk off d1 w1) := S2'
                  have L1 : Aside (d1.toList = A ++ X1 ++ Y1 ++ X2 ++ Y2 ++ B) := hl1
                  clear hcall hl1 S2'
                  have L2 : Aside (d1.toList = A ++ (X1 ++ Y1) ++ X2 ++ Y2 ++ B ∧ (X1 ++ Y1).length = X1.length + Y1.length ∧ Srt (X1 ++ Y1) ∧ StbF (X1 ++ Y1) (X1 ++ Y1)) := ⟨by rw [L1.out]; simp only [List.append_assoc], List.length_append, half_same (by have := LN.out; omega) ORD.out.1.left ORD.out.2.1.left, StbF.refl _⟩
                  have hzd : d1.size = d.size := by omega
                  have hcall := HIH.out mid e b d1 (A ++ (X1 ++ Y1)) X2 Y2 B _ (by omega) (by omega) S2.out hsb.1 hsb.2 (by omega) ⟨L2.out.1, by have := LN.out; have := L2.out.2.1; rw [List.length_append]; omega, by have := LN.out; omega, by have := LN.out; omega, ORD.out.1.right, ORD.out.2.1.right⟩
                  rw [hzd] at hcall
                  clear S2
                  go_wp2_with fail
                  refine hcall.mono ?_
                  rintro r w3 ⟨rfl, d3, hz3, ⟨Z2, hl3, hZ2, hst2⟩, S4'⟩
                  have S4 : Aside (SWK encF k w0 blk off d3 w3) := S4'
                  have L3 : Aside (SyE A (X1 ++ X2) (Y1 ++ Y2) B d3) := sym_end ORD.out.1 ORD.out.2.1 ORD.out.2.2.1 ORD.out.2.2.2 L2.out.2.2 ⟨hZ2, hst2⟩ hl3
                  clear hcall hl3 hZ2 hst2 S4'
                  go_wp2_with fail
                  go_end0
                  exact ⟨rfl, d3, by omega, L3.out, S4.out⟩)
            · by_cases hsbw : mid < e
              · have hsby : (mid : Int) < (e : Int) := by omega
                have hsbz : ¬ (e : Int) < (b : Int) := by omega
                first
                  | (exfalso; omega)
                  | (
                    have hcall := sw_rotate L g cb blk off cap p m e d0 d (A ++ X1 ++ Y1 ++ X2 ++ Y2 ++ B) w0 wr R hs S1.out hr.1 hr.2 (by omega) (by omega) ⟨A ++ X1, X2, Y1, Y2 ++ B, by rw [L0.out]; simp only [List.append_assoc], LN.out.2.1.symm, LN.out.2.2.1.symm, by have := LN.out; simp; omega, by simp only [List.append_assoc]⟩
                    clear S1
                    go_wp2_with fail
                    refine hcall.mono ?_
                    rintro r w1 ⟨rfl, d1, hz1, hl1, S2'⟩
                    have S2 : Aside (SWK encF k w0 blk off d1 w1) := S2'
                    have L1 : Aside (d1.toList = A ++ X1 ++ Y1 ++ X2 ++ Y2 ++ B) := hl1
                    clear hcall hl1 S2'
                    have L2 : Aside (d1.toList = A ++ (X1 ++ Y1) ++ X2 ++ Y2 ++ B ∧ (X1 ++ Y1).length = X1.length + Y1.length ∧ Srt (X1 ++ Y1) ∧ StbF (X1 ++ Y1) (X1 ++ Y1)) := ⟨by rw [L1.out]; simp only [List.append_assoc], List.length_append, half_same (by have := LN.out; omega) ORD.out.1.left ORD.out.2.1.left, StbF.refl _⟩
                    have L3 : Aside (SyE A (X1 ++ X2) (Y1 ++ Y2) B d1) := sym_end ORD.out.1 ORD.out.2.1 ORD.out.2.2.1 ORD.out.2.2.2 L2.out.2.2 ⟨half_same (by have := LN.out; omega) ORD.out.1.right ORD.out.2.1.right, StbF.refl _⟩ (by rw [L2.out.1]; simp only [List.append_assoc])
                    go_wp2_with fail
                    go_end0
                    exact ⟨rfl, d1, by omega, L3.out, S2.out⟩)
              · have hsby : ¬ (mid : Int) < (e : Int) := by omega
                first
                  | (exfalso; omega)
                  | (
                    have hcall := sw_rotate L g cb blk off cap p m e d0 d (A ++ X1 ++ Y1 ++ X2 ++ Y2 ++ B) w0 wr R hs S1.out hr.1 hr.2 (by omega) (by omega) ⟨A ++ X1, X2, Y1, Y2 ++ B, by rw [L0.out]; simp only [List.append_assoc], LN.out.2.1.symm, LN.out.2.2.1.symm, by have := LN.out; simp; omega, by simp only [List.append_assoc]⟩
                    clear S1
                    go_wp2_with fail
                    refine hcall.mono ?_
                    rintro r w1 ⟨rfl, d1, hz1, hl1, S2'⟩
                    have S2 : Aside (SWK encF k w0 blk off d1 w1) := S2'
                    have L1 : Aside (d1.toList = A ++ X1 ++ Y1 ++ X2 ++ Y2 ++ B) := hl1
                    clear hcall hl1 S2'
                    have L2 : Aside (d1.toList = A ++ (X1 ++ Y1) ++ X2 ++ Y2 ++ B ∧ (X1 ++ Y1).length = X1.length + Y1.length ∧ Srt (X1 ++ Y1) ∧ StbF (X1 ++ Y1) (X1 ++ Y1)) := ⟨by rw [L1.out]; simp only [List.append_assoc], List.length_append, half_same (by have := LN.out; omega) ORD.out.1.left ORD.out.2.1.left, StbF.refl _⟩
                    have L3 : Aside (SyE A (X1 ++ X2) (Y1 ++ Y2) B d1) := sym_end ORD.out.1 ORD.out.2.1 ORD.out.2.2.1 ORD.out.2.2.2 L2.out.2.2 ⟨half_same (by have := LN.out; omega) ORD.out.1.right ORD.out.2.1.right, StbF.refl _⟩ (by rw [L2.out.1]; simp only [List.append_assoc])
                    go_wp2_with fail
                    go_end0
                    exact ⟨rfl, d1, by omega, L3.out, S2.out⟩)
      · by_cases hrw : p < m
        · have hry : (p : Int) < (m : Int) := by omega
          have hrz : ¬ (m : Int) < (e : Int) := by omega
          by_cases hs1 : a < p ∧ p < mid
          · have hs1y : (a : Int) < (p : Int) := by omega
            have hs1z : (p : Int) < (mid : Int) := by omega
            by_cases hsb : mid < e ∧ e < b
            · have hsby : (mid : Int) < (e : Int) := by omega
              have hsbz : (e : Int) < (b : Int) := by omega
              first
                | (exfalso; omega)
                | (
                  have L1 : Aside (d.toList = A ++ X1 ++ Y1 ++ X2 ++ Y2 ++ B) := L0.out.trans (cross_same (by have := LN.out; omega))
                  have hcall := HIH.out a p mid d A X1 Y1 (X2 ++ Y2 ++ B) _ (by omega) (by omega) S1.out hs1.1 hs1.2 (by omega) ⟨by rw [L1.out]; simp only [List.append_assoc], LN.out.2.2.2.2, by have := LN.out; omega, by have := LN.out; omega, ORD.out.1.left, ORD.out.2.1.left⟩
                  clear S1
                  go_wp2_with fail
                  refine hcall.mono ?_
                  rintro r w2 ⟨rfl, d2, hz2, ⟨Z1, hl2, hZ1, hst1⟩, S3'⟩
                  have S3 : Aside (SWK encF k w0 blk off d2 w2) := S3'
                  have hzl := half_len L1.out hl2 (by omega)
                  have L2 : Aside (d2.toList = A ++ Z1 ++ X2 ++ Y2 ++ B ∧ Z1.length = X1.length + Y1.length ∧ Srt Z1 ∧ StbF (X1 ++ Y1) Z1) := ⟨by rw [hl2]; simp only [List.append_assoc], hzl, hZ1, hst1⟩
                  clear hcall hl2 hZ1 hst1 S3' hzl
                  have hzd : d2.size = d.size := by omega
                  have hcall := HIH.out mid e b d2 (A ++ Z1) X2 Y2 B _ (by omega) (by omega) S3.out hsb.1 hsb.2 (by omega) ⟨L2.out.1, by have := LN.out; have := L2.out.2.1; rw [List.length_append]; omega, by have := LN.out; omega, by have := LN.out; omega, ORD.out.1.right, ORD.out.2.1.right⟩
                  rw [hzd] at hcall
                  clear S3
                  go_wp2_with fail
                  refine hcall.mono ?_
                  rintro r w3 ⟨rfl, d3, hz3, ⟨Z2, hl3, hZ2, hst2⟩, S4'⟩
                  have S4 : Aside (SWK encF k w0 blk off d3 w3) := S4'
                  have L3 : Aside (SyE A (X1 ++ X2) (Y1 ++ Y2) B d3) := sym_end ORD.out.1 ORD.out.2.1 ORD.out.2.2.1 ORD.out.2.2.2 L2.out.2.2 ⟨hZ2, hst2⟩ hl3
                  clear hcall hl3 hZ2 hst2 S4'
                  go_wp2_with fail
                  go_end0
                  exact ⟨rfl, d3, by omega, L3.out, S4.out⟩)
            · by_cases hsbw : mid < e
              · have hsby : (mid : Int) < (e : Int) := by omega
                have hsbz : ¬ (e : Int) < (b : Int) := by omega
                first
                  | (exfalso; omega)
                  | (
                    have L1 : Aside (d.toList = A ++ X1 ++ Y1 ++ X2 ++ Y2 ++ B) := L0.out.trans (cross_same (by have := LN.out; omega))
                    have hcall := HIH.out a p mid d A X1 Y1 (X2 ++ Y2 ++ B) _ (by omega) (by omega) S1.out hs1.1 hs1.2 (by omega) ⟨by rw [L1.out]; simp only [List.append_assoc], LN.out.2.2.2.2, by have := LN.out; omega, by have := LN.out; omega, ORD.out.1.left, ORD.out.2.1.left⟩
                    clear S1
                    go_wp2_with fail
                    refine hcall.mono ?_
                    rintro r w2 ⟨rfl, d2, hz2, ⟨Z1, hl2, hZ1, hst1⟩, S3'⟩
                    have S3 : Aside (SWK encF k w0 blk off d2 w2) := S3'
                    have hzl := half_len L1.out hl2 (by omega)
                    have L2 : Aside (d2.toList = A ++ Z1 ++ X2 ++ Y2 ++ B ∧ Z1.length = X1.length + Y1.length ∧ Srt Z1 ∧ StbF (X1 ++ Y1) Z1) := ⟨by rw [hl2]; simp only [List.append_assoc], hzl, hZ1, hst1⟩
                    clear hcall hl2 hZ1 hst1 S3' hzl
                    have L3 : Aside (SyE A (X1 ++ X2) (Y1 ++ Y2) B d2) := sym_end ORD.out.1 ORD.out.2.1 ORD.out.2.2.1 ORD.out.2.2.2 L2.out.2.2 ⟨half_same (by have := LN.out; omega) ORD.out.1.right ORD.out.2.1.right, StbF.refl _⟩ (by rw [L2.out.1]; simp only [List.append_assoc])
                    go_wp2_with fail
                    go_end0
                    exact ⟨rfl, d2, by omega, L3.out, S3.out⟩)
              · have hsby : ¬ (mid : Int) < (e : Int) := by omega
                first
                  | (exfalso; omega)
                  | (
                    have L1 : Aside (d.toList = A ++ X1 ++ Y1 ++ X2 ++ Y2 ++ B) := L0.out.trans (cross_same (by have := LN.out; omega))
                    have hcall := HIH.out a p mid d A X1 Y1 (X2 ++ Y2 ++ B) _ (by omega) (by omega) S1.out hs1.1 hs1.2 (by omega) ⟨by rw [L1.out]; simp only [List.append_assoc], LN.out.2.2.2.2, by have := LN.out; omega, by have := LN.out; omega, ORD.out.1.left, ORD.out.2.1.left⟩
                    clear S1
                    go_wp2_with fail
                    refine hcall.mono ?_
                    rintro r w2 ⟨rfl, d2, hz2, ⟨Z1, hl2, hZ1, hst1⟩, S3'⟩
                    have S3 : Aside (SWK encF k w0 blk off d2 w2) := S3'
                    have hzl := half_len L1.out hl2 (by omega)
                    have L2 : Aside (d2.toList = A ++ Z1 ++ X2 ++ Y2 ++ B ∧ Z1.length = X1.length + Y1.length ∧ Srt Z1 ∧ StbF (X1 ++ Y1) Z1) := ⟨by rw [hl2]; simp only [List.append_assoc], hzl, hZ1, hst1⟩
                    clear hcall hl2 hZ1 hst1 S3' hzl
                    have L3 : Aside (SyE A (X1 ++ X2) (Y1 ++ Y2) B d2) := sym_end ORD.out.1 ORD.out.2.1 ORD.out.2.2.1 ORD.out.2.2.2 L2.out.2.2 ⟨half_same (by have := LN.out; omega) ORD.out.1.right ORD.out.2.1.right, StbF.refl _⟩ (by rw [L2.out.1]; simp only [List.append_assoc])
                    go_wp2_with fail
                    go_end0
                    exact ⟨rfl, d2, by omega, L3.out, S3.out⟩)
          · by_cases hs1w : a < p
            · have hs1y : (a : Int) < (p : Int) := by omega
              have hs1z : ¬ (p : Int) < (mid : Int) := by omega
              by_cases hsb : mid < e ∧ e < b
              · have hsby : (mid : Int) < (e : Int) := by omega
                have hsbz : (e : Int) < (b : Int) := by omega
                first
                  | (exfalso; omega)
                  | (
                    have L1 : Aside (d.toList = A ++ X1 ++ Y1 ++ X2 ++ Y2 ++ B) := L0.out.trans (cross_same (by have := LN.out; omega))
                    have L2 : Aside (d.toList = A ++ (X1 ++ Y1) ++ X2 ++ Y2 ++ B ∧ (X1 ++ Y1).length = X1.length + Y1.length ∧ Srt (X1 ++ Y1) ∧ StbF (X1 ++ Y1) (X1 ++ Y1)) := ⟨by rw [L1.out]; simp only [List.append_assoc], List.length_append, half_same (by have := LN.out; omega) ORD.out.1.left ORD.out.2.1.left, StbF.refl _⟩
                    have hzd : d.size = d.size := by omega
                    have hcall := HIH.out mid e b d (A ++ (X1 ++ Y1)) X2 Y2 B _ (by omega) (by omega) S1.out hsb.1 hsb.2 (by omega) ⟨L2.out.1, by have := LN.out; have := L2.out.2.1; rw [List.length_append]; omega, by have := LN.out; omega, by have := LN.out; omega, ORD.out.1.right, ORD.out.2.1.right⟩
                    clear S1
                    go_wp2_with fail
                    refine hcall.mono ?_
                    rintro r w3 ⟨rfl, d3, hz3, ⟨Z2, hl3, hZ2, hst2⟩, S4'⟩
                    have S4 : Aside (SWK encF k w0 blk off d3 w3) := S4'
                    have L3 : Aside (SyE A (X1 ++ X2) (Y1 ++ Y2) B d3) := sym_end ORD.out.1 ORD.out.2.1 ORD.out.2.2.1 ORD.out.2.2.2 L2.out.2.2 ⟨hZ2, hst2⟩ hl3
                    clear hcall hl3 hZ2 hst2 S4'
                    go_wp2_with fail
                    go_end0
                    exact ⟨rfl, d3, by omega, L3.out, S4.out⟩)
              · by_cases hsbw : mid < e
                · have hsby : (mid : Int) < (e : Int) := by omega
                  have hsbz : ¬ (e : Int) < (b : Int) := by omega
                  first
                    | (exfalso; omega)
                    | (
                      have L1 : Aside (d.toList = A ++ X1 ++ Y1 ++ X2 ++ Y2 ++ B) := L0.out.trans (cross_same (by have := LN.out; omega))
                      have L2 : Aside (d.toList = A ++ (X1 ++ Y1) ++ X2 ++ Y2 ++ B ∧ (X1 ++ Y1).length = X1.length + Y1.length ∧ Srt (X1 ++ Y1) ∧ StbF (X1 ++ Y1) (X1 ++ Y1)) := ⟨by rw [L1.out]; simp only [List.append_assoc], List.length_append, half_same (by have := LN.out; omega) ORD.out.1.left ORD.out.2.1.left, StbF.refl _⟩
                      have L3 : Aside (SyE A (X1 ++ X2) (Y1 ++ Y2) B d) := sym_end ORD.out.1 ORD.out.2.1 ORD.out.2.2.1 ORD.out.2.2.2 L2.out.2.2 ⟨half_same (by have := LN.out; omega) ORD.out.1.right ORD.out.2.1.right, StbF.refl _⟩ (by rw [L2.out.1]; simp only [List.append_assoc])
                      go_wp2_with fail
                      go_end0
                      exact ⟨rfl, d, by omega, L3.out, S1.out⟩)
                · have hsby : ¬ (mid : Int) < (e : Int) := by omega
                  first
                    | (exfalso; omega)
                    | (
                      have L1 : Aside (d.toList = A ++ X1 ++ Y1 ++ X2 ++ Y2 ++ B) := L0.out.trans (cross_same (by have := LN.out; omega))
                      have L2 : Aside (d.toList = A ++ (X1 ++ Y1) ++ X2 ++ Y2 ++ B ∧ (X1 ++ Y1).length = X1.length + Y1.length ∧ Srt (X1 ++ Y1) ∧ StbF (X1 ++ Y1) (X1 ++ Y1)) := ⟨by rw [L1.out]; simp only [List.append_assoc], List.length_append, half_same (by have := LN.out; omega) ORD.out.1.left ORD.out.2.1.left, StbF.refl _⟩
                      have L3 : Aside (SyE A (X1 ++ X2) (Y1 ++ Y2) B d) := sym_end ORD.out.1 ORD.out.2.1 ORD.out.2.2.1 ORD.out.2.2.2 L2.out.2.2 ⟨half_same (by have := LN.out; omega) ORD.out.1.right ORD.out.2.1.right, StbF.refl _⟩ (by rw [L2.out.1]; simp only [List.append_assoc])
                      go_wp2_with fail
                      go_end0
                      exact ⟨rfl, d, by omega, L3.out, S1.out⟩)
            · have hs1y : ¬ (a : Int) < (p : Int) := by omega
              by_cases hsb : mid < e ∧ e < b
              · have hsby : (mid : Int) < (e : Int) := by omega
                have hsbz : (e : Int) < (b : Int) := by omega
                first
                  | (exfalso; omega)
                  | (
                    have L1 : Aside (d.toList = A ++ X1 ++ Y1 ++ X2 ++ Y2 ++ B) := L0.out.trans (cross_same (by have := LN.out; omega))
                    have L2 : Aside (d.toList = A ++ (X1 ++ Y1) ++ X2 ++ Y2 ++ B ∧ (X1 ++ Y1).length = X1.length + Y1.length ∧ Srt (X1 ++ Y1) ∧ StbF (X1 ++ Y1) (X1 ++ Y1)) := ⟨by rw [L1.out]; simp only [List.append_assoc], List.length_append, half_same (by have := LN.out; omega) ORD.out.1.left ORD.out.2.1.left, StbF.refl _⟩
                    have hzd : d.size = d.size := by omega
                    have hcall := HIH.out mid e b d (A ++ (X1 ++ Y1)) X2 Y2 B _ (by omega) (by omega) S1.out hsb.1 hsb.2 (by omega) ⟨L2.out.1, by have := LN.out; have := L2.out.2.1; rw [List.length_append]; omega, by have := LN.out; omega, by have := LN.out; omega, ORD.out.1.right, ORD.out.2.1.right⟩
                    clear S1
                    go_wp2_with fail
                    refine hcall.mono ?_
                    rintro r w3 ⟨rfl, d3, hz3, ⟨Z2, hl3, hZ2, hst2⟩, S4'⟩
                    have S4 : Aside (SWK encF k w0 blk off d3 w3) := S4'
                    have L3 : Aside (SyE A (X1 ++ X2) (Y1 ++ Y2) B d3) := sym_end ORD.out.1 ORD.out.2.1 ORD.out.2.2.1 ORD.out.2.2.2 L2.out.2.2 ⟨hZ2, hst2⟩ hl3
                    clear hcall hl3 hZ2 hst2 S4'
                    go_wp2_with fail
                    go_end0
                    exact ⟨rfl, d3, by omega, L3.out, S4.out⟩)
              · by_cases hsbw : mid < e
                · have hsby : (mid : Int) < (e : Int) := by omega
                  have hsbz : ¬ (e : Int) < (b : Int) := by omega
                  first
                    | (exfalso; omega)
                    | (
                      have L1 : Aside (d.toList = A ++ X1 ++ Y1 ++ X2 ++ Y2 ++ B) := L0.out.trans (cross_same (by have := LN.out; omega))
                      have L2 : Aside (d.toList = A ++ (X1 ++ Y1) ++ X2 ++ Y2 ++ B ∧ (X1 ++ Y1).length = X1.length + Y1.length ∧ Srt (X1 ++ Y1) ∧ StbF (X1 ++ Y1) (X1 ++ Y1)) := ⟨by rw [L1.out]; simp only [List.append_assoc], List.length_append, half_same (by have := LN.out; omega) ORD.out.1.left ORD.out.2.1.left, StbF.refl _⟩
                      have L3 : Aside (SyE A (X1 ++ X2) (Y1 ++ Y2) B d) := sym_end ORD.out.1 ORD.out.2.1 ORD.out.2.2.1 ORD.out.2.2.2 L2.out.2.2 ⟨half_same (by have := LN.out; omega) ORD.out.1.right ORD.out.2.1.right, StbF.refl _⟩ (by rw [L2.out.1]; simp only [List.append_assoc])
                      go_wp2_with fail
                      go_end0
                      exact ⟨rfl, d, by omega, L3.out, S1.out⟩)
                · have hsby : ¬ (mid : Int) < (e : Int) := by omega
                  first
                    | (exfalso; omega)
                    | (
                      have L1 : Aside (d.toList = A ++ X1 ++ Y1 ++ X2 ++ Y2 ++ B) := L0.out.trans (cross_same (by have := LN.out; omega))
                      have L2 : Aside (d.toList = A ++ (X1 ++ Y1) ++ X2 ++ Y2 ++ B ∧ (X1 ++ Y1).length = X1.length + Y1.length ∧ Srt (X1 ++ Y1) ∧ StbF (X1 ++ Y1) (X1 ++ Y1)) := ⟨by rw [L1.out]; simp only [List.append_assoc], List.length_append, half_same (by have := LN.out; omega) ORD.out.1.left ORD.out.2.1.left, StbF.refl _⟩
                      have L3 : Aside (SyE A (X1 ++ X2) (Y1 ++ Y2) B d) := sym_end ORD.out.1 ORD.out.2.1 ORD.out.2.2.1 ORD.out.2.2.2 L2.out.2.2 ⟨half_same (by have := LN.out; omega) ORD.out.1.right ORD.out.2.1.right, StbF.refl _⟩ (by rw [L2.out.1]; simp only [List.append_assoc])
                      go_wp2_with fail
                      go_end0
                      exact ⟨rfl, d, by omega, L3.out, S1.out⟩)
        · have hry : ¬ (p : Int) < (m : Int) := by omega
          by_cases hs1 : a < p ∧ p < mid
          · have hs1y : (a : Int) < (p : Int) := by omega
            have hs1z : (p : Int) < (mid : Int) := by omega
            by_cases hsb : mid < e ∧ e < b
            · have hsby : (mid : Int) < (e : Int) := by omega
              have hsbz : (e : Int) < (b : Int) := by omega
              first
                | (exfalso; omega)
                | (
                  have L1 : Aside (d.toList = A ++ X1 ++ Y1 ++ X2 ++ Y2 ++ B) := L0.out.trans (cross_same (by have := LN.out; omega))
                  have hcall := HIH.out a p mid d A X1 Y1 (X2 ++ Y2 ++ B) _ (by omega) (by omega) S1.out hs1.1 hs1.2 (by omega) ⟨by rw [L1.out]; simp only [List.append_assoc], LN.out.2.2.2.2, by have := LN.out; omega, by have := LN.out; omega, ORD.out.1.left, ORD.out.2.1.left⟩
                  clear S1
                  go_wp2_with fail
                  refine hcall.mono ?_
                  rintro r w2 ⟨rfl, d2, hz2, ⟨Z1, hl2, hZ1, hst1⟩, S3'⟩
                  have S3 : Aside (SWK encF k w0 blk off d2 w2) := S3'
                  have hzl := half_len L1.out hl2 (by omega)
                  have L2 : Aside (d2.toList = A ++ Z1 ++ X2 ++ Y2 ++ B ∧ Z1.length = X1.length + Y1.length ∧ Srt Z1 ∧ StbF (X1 ++ Y1) Z1) := ⟨by rw [hl2]; simp only [List.append_assoc], hzl, hZ1, hst1⟩
                  clear hcall hl2 hZ1 hst1 S3' hzl
                  have hzd : d2.size = d.size := by omega
                  have hcall := HIH.out mid e b d2 (A ++ Z1) X2 Y2 B _ (by omega) (by omega) S3.out hsb.1 hsb.2 (by omega) ⟨L2.out.1, by have := LN.out; have := L2.out.2.1; rw [List.length_append]; omega, by have := LN.out; omega, by have := LN.out; omega, ORD.out.1.right, ORD.out.2.1.right⟩
                  rw [hzd] at hcall
                  clear S3
                  go_wp2_with fail
                  refine hcall.mono ?_
                  rintro r w3 ⟨rfl, d3, hz3, ⟨Z2, hl3, hZ2, hst2⟩, S4'⟩
                  have S4 : Aside (SWK encF k w0 blk off d3 w3) := S4'
                  have L3 : Aside (SyE A (X1 ++ X2) (Y1 ++ Y2) B d3) := sym_end ORD.out.1 ORD.out.2.1 ORD.out.2.2.1 ORD.out.2.2.2 L2.out.2.2 ⟨hZ2, hst2⟩ hl3
                  clear hcall hl3 hZ2 hst2 S4'
                  go_wp2_with fail
                  go_end0
                  exact ⟨rfl, d3, by omega, L3.out, S4.out⟩)
            · by_cases hsbw : mid < e
              · have hsby : (mid : Int) < (e : Int) := by omega
                have hsbz : ¬ (e : Int) < (b : Int) := by omega
                first
                  | (exfalso; omega)
                  | (
                    have L1 : Aside (d.toList = A ++ X1 ++ Y1 ++ X2 ++ Y2 ++ B) := L0.out.trans (cross_same (by have := LN.out; omega))
                    have hcall := HIH.out a p mid d A X1 Y1 (X2 ++ Y2 ++ B) _ (by omega) (by omega) S1.out hs1.1 hs1.2 (by omega) ⟨by rw [L1.out]; simp only [List.append_assoc], LN.out.2.2.2.2, by have := LN.out; omega, by have := LN.out; omega, ORD.out.1.left, ORD.out.2.1.left⟩
                    clear S1
                    go_wp2_with fail
                    refine hcall.mono ?_
                    rintro r w2 ⟨rfl, d2, hz2, ⟨Z1, hl2, hZ1, hst1⟩, S3'⟩
                    have S3 : Aside (SWK encF k w0 blk off d2 w2) := S3'
                    have hzl := half_len L1.out hl2 (by omega)
                    have L2 : Aside (d2.toList = A ++ Z1 ++ X2 ++ Y2 ++ B ∧ Z1.length = X1.length + Y1.length ∧ Srt Z1 ∧ StbF (X1 ++ Y1) Z1) := ⟨by rw [hl2]; simp only [List.append_assoc], hzl, hZ1, hst1⟩
                    clear hcall hl2 hZ1 hst1 S3' hzl
                    have L3 : Aside (SyE A (X1 ++ X2) (Y1 ++ Y2) B d2) := sym_end ORD.out.1 ORD.out.2.1 ORD.out.2.2.1 ORD.out.2.2.2 L2.out.2.2 ⟨half_same (by have := LN.out; omega) ORD.out.1.right ORD.out.2.1.right, StbF.refl _⟩ (by rw [L2.out.1]; simp only [List.append_assoc])
                    go_wp2_with fail
                    go_end0
                    exact ⟨rfl, d2, by omega, L3.out, S3.out⟩)
              · have hsby : ¬ (mid : Int) < (e : Int) := by omega
                first
                  | (exfalso; omega)
                  | (
                    have L1 : Aside (d.toList = A ++ X1 ++ Y1 ++ X2 ++ Y2 ++ B) := L0.out.trans (cross_same (by have := LN.out; omega))
                    have hcall := HIH.out a p mid d A X1 Y1 (X2 ++ Y2 ++ B) _ (by omega) (by omega) S1.out hs1.1 hs1.2 (by omega) ⟨by rw [L1.out]; simp only [List.append_assoc], LN.out.2.2.2.2, by have := LN.out; omega, by have := LN.out; omega, ORD.out.1.left, ORD.out.2.1.left⟩
                    clear S1
                    go_wp2_with fail
                    refine hcall.mono ?_
                    rintro r w2 ⟨rfl, d2, hz2, ⟨Z1, hl2, hZ1, hst1⟩, S3'⟩
                    have S3 : Aside (SWK encF k w0 blk off d2 w2) := S3'
                    have hzl := half_len L1.out hl2 (by omega)
                    have L2 : Aside (d2.toList = A ++ Z1 ++ X2 ++ Y2 ++ B ∧ Z1.length = X1.length + Y1.length ∧ Srt Z1 ∧ StbF (X1 ++ Y1) Z1) := ⟨by rw [hl2]; simp only [List.append_assoc], hzl, hZ1, hst1⟩
                    clear hcall hl2 hZ1 hst1 S3' hzl
                    have L3 : Aside (SyE A (X1 ++ X2) (Y1 ++ Y2) B d2) := sym_end ORD.out.1 ORD.out.2.1 ORD.out.2.2.1 ORD.out.2.2.2 L2.out.2.2 ⟨half_same (by have := LN.out; omega) ORD.out.1.right ORD.out.2.1.right, StbF.refl _⟩ (by rw [L2.out.1]; simp only [List.append_assoc])
                    go_wp2_with fail
                    go_end0
                    exact ⟨rfl, d2, by omega, L3.out, S3.out⟩)
          · by_cases hs1w : a < p
            · have hs1y : (a : Int) < (p : Int) := by omega
              have hs1z : ¬ (p : Int) < (mid : Int) := by omega
              by_cases hsb : mid < e ∧ e < b
              · have hsby : (mid : Int) < (e : Int) := by omega
                have hsbz : (e : Int) < (b : Int) := by omega
                first
                  | (exfalso; omega)
                  | (
                    have L1 : Aside (d.toList = A ++ X1 ++ Y1 ++ X2 ++ Y2 ++ B) := L0.out.trans (cross_same (by have := LN.out; omega))
                    have L2 : Aside (d.toList = A ++ (X1 ++ Y1) ++ X2 ++ Y2 ++ B ∧ (X1 ++ Y1).length = X1.length + Y1.length ∧ Srt (X1 ++ Y1) ∧ StbF (X1 ++ Y1) (X1 ++ Y1)) := ⟨by rw [L1.out]; simp only [List.append_assoc], List.length_append, half_same (by have := LN.out; omega) ORD.out.1.left ORD.out.2.1.left, StbF.refl _⟩
                    have hzd : d.size = d.size := by omega
                    have hcall := HIH.out mid e b d (A ++ (X1 ++ Y1)) X2 Y2 B _ (by omega) (by omega) S1.out hsb.1 hsb.2 (by omega) ⟨L2.out.1, by have := LN.out; have := L2.out.2.1; rw [List.length_append]; omega, by have := LN.out; omega, by have := LN.out; omega, ORD.out.1.right, ORD.out.2.1.right⟩
                    clear S1
                    go_wp2_with fail
                    refine hcall.mono ?_
                    rintro r w3 ⟨rfl, d3, hz3, ⟨Z2, hl3, hZ2, hst2⟩, S4'⟩
                    have S4 : Aside (SWK encF k w0 blk off d3 w3) := S4'
                    have L3 : Aside (SyE A (X1 ++ X2) (Y1 ++ Y2) B d3) := sym_end ORD.out.1 ORD.out.2.1 ORD.out.2.2.1 ORD.out.2.2.2 L2.out.2.2 ⟨hZ2, hst2⟩ hl3
                    clear hcall hl3 hZ2 hst2 S4'
                    go_wp2_with fail
                    go_end0
                    exact ⟨rfl, d3, by omega, L3.out, S4.out⟩)
              · by_cases hsbw : mid < e
                · have hsby : (mid : Int) < (e : Int) := by omega
                  have hsbz : ¬ (e : Int) < (b : Int) := by omega
                  first
                    | (exfalso; omega)
                    | (
                      have L1 : Aside (d.toList = A ++ X1 ++ Y1 ++ X2 ++ Y2 ++ B) := L0.out.trans (cross_same (by have := LN.out; omega))
                      have L2 : Aside (d.toList = A ++ (X1 ++ Y1) ++ X2 ++ Y2 ++ B ∧ (X1 ++ Y1).length = X1.length + Y1.length ∧ Srt (X1 ++ Y1) ∧ StbF (X1 ++ Y1) (X1 ++ Y1)) := ⟨by rw [L1.out]; simp only [List.append_assoc], List.length_append, half_same (by have := LN.out; omega) ORD.out.1.left ORD.out.2.1.left, StbF.refl _⟩
                      have L3 : Aside (SyE A (X1 ++ X2) (Y1 ++ Y2) B d) := sym_end ORD.out.1 ORD.out.2.1 ORD.out.2.2.1 ORD.out.2.2.2 L2.out.2.2 ⟨half_same (by have := LN.out; omega) ORD.out.1.right ORD.out.2.1.right, StbF.refl _⟩ (by rw [L2.out.1]; simp only [List.append_assoc])
                      go_wp2_with fail
                      go_end0
                      exact ⟨rfl, d, by omega, L3.out, S1.out⟩)
                · have hsby : ¬ (mid : Int) < (e : Int) := by omega
                  first
                    | (exfalso; omega)
                    | (
                      have L1 : Aside (d.toList = A ++ X1 ++ Y1 ++ X2 ++ Y2 ++ B) := L0.out.trans (cross_same (by have := LN.out; omega))
                      have L2 : Aside (d.toList = A ++ (X1 ++ Y1) ++ X2 ++ Y2 ++ B ∧ (X1 ++ Y1).length = X1.length + Y1.length ∧ Srt (X1 ++ Y1) ∧ StbF (X1 ++ Y1) (X1 ++ Y1)) := ⟨by rw [L1.out]; simp only [List.append_assoc], List.length_append, half_same (by have := LN.out; omega) ORD.out.1.left ORD.out.2.1.left, StbF.refl _⟩
                      have L3 : Aside (SyE A (X1 ++ X2) (Y1 ++ Y2) B d) := sym_end ORD.out.1 ORD.out.2.1 ORD.out.2.2.1 ORD.out.2.2.2 L2.out.2.2 ⟨half_same (by have := LN.out; omega) ORD.out.1.right ORD.out.2.1.right, StbF.refl _⟩ (by rw [L2.out.1]; simp only [List.append_assoc])
                      go_wp2_with fail
                      go_end0
                      exact ⟨rfl, d, by omega, L3.out, S1.out⟩)
            · have hs1y : ¬ (a : Int) < (p : Int) := by omega
              by_cases hsb : mid < e ∧ e < b
              · have hsby : (mid : Int) < (e : Int) := by omega
                have hsbz : (e : Int) < (b : Int) := by omega
                first
                  | (exfalso; omega)
                  | (
                    have L1 : Aside (d.toList = A ++ X1 ++ Y1 ++ X2 ++ Y2 ++ B) := L0.out.trans (cross_same (by have := LN.out; omega))
                    have L2 : Aside (d.toList = A ++ (X1 ++ Y1) ++ X2 ++ Y2 ++ B ∧ (X1 ++ Y1).length = X1.length + Y1.length ∧ Srt (X1 ++ Y1) ∧ StbF (X1 ++ Y1) (X1 ++ Y1)) := ⟨by rw [L1.out]; simp only [List.append_assoc], List.length_append, half_same (by have := LN.out; omega) ORD.out.1.left ORD.out.2.1.left, StbF.refl _⟩
                    have hzd : d.size = d.size := by omega
                    have hcall := HIH.out mid e b d (A ++ (X1 ++ Y1)) X2 Y2 B _ (by omega) (by omega) S1.out hsb.1 hsb.2 (by omega) ⟨L2.out.1, by have := LN.out; have := L2.out.2.1; rw [List.length_append]; omega, by have := LN.out; omega, by have := LN.out; omega, ORD.out.1.right, ORD.out.2.1.right⟩
                    clear S1
                    go_wp2_with fail
                    refine hcall.mono ?_
                    rintro r w3 ⟨rfl, d3, hz3, ⟨Z2, hl3, hZ2, hst2⟩, S4'⟩
                    have S4 : Aside (SWK encF k w0 blk off d3 w3) := S4'
                    have L3 : Aside (SyE A (X1 ++ X2) (Y1 ++ Y2) B d3) := sym_end ORD.out.1 ORD.out.2.1 ORD.out.2.2.1 ORD.out.2.2.2 L2.out.2.2 ⟨hZ2, hst2⟩ hl3
                    clear hcall hl3 hZ2 hst2 S4'
                    go_wp2_with fail
                    go_end0
                    exact ⟨rfl, d3, by omega, L3.out, S4.out⟩)
              · by_cases hsbw : mid < e
                · have hsby : (mid : Int) < (e : Int) := by omega
                  have hsbz : ¬ (e : Int) < (b : Int) := by omega
                  first
                    | (exfalso; omega)
                    | (
                      have L1 : Aside (d.toList = A ++ X1 ++ Y1 ++ X2 ++ Y2 ++ B) := L0.out.trans (cross_same (by have := LN.out; omega))
                      have L2 : Aside (d.toList = A ++ (X1 ++ Y1) ++ X2 ++ Y2 ++ B ∧ (X1 ++ Y1).length = X1.length + Y1.length ∧ Srt (X1 ++ Y1) ∧ StbF (X1 ++ Y1) (X1 ++ Y1)) := ⟨by rw [L1.out]; simp only [List.append_assoc], List.length_append, half_same (by have := LN.out; omega) ORD.out.1.left ORD.out.2.1.left, StbF.refl _⟩
                      have L3 : Aside (SyE A (X1 ++ X2) (Y1 ++ Y2) B d) := sym_end ORD.out.1 ORD.out.2.1 ORD.out.2.2.1 ORD.out.2.2.2 L2.out.2.2 ⟨half_same (by have := LN.out; omega) ORD.out.1.right ORD.out.2.1.right, StbF.refl _⟩ (by rw [L2.out.1]; simp only [List.append_assoc])
                      go_wp2_with fail
                      go_end0
                      exact ⟨rfl, d, by omega, L3.out, S1.out⟩)
                · have hsby : ¬ (mid : Int) < (e : Int) := by omega
                  first
                    | (exfalso; omega)
                    | (
                      have L1 : Aside (d.toList = A ++ X1 ++ Y1 ++ X2 ++ Y2 ++ B) := L0.out.trans (cross_same (by have := LN.out; omega))
                      have L2 : Aside (d.toList = A ++ (X1 ++ Y1) ++ X2 ++ Y2 ++ B ∧ (X1 ++ Y1).length = X1.length + Y1.length ∧ Srt (X1 ++ Y1) ∧ StbF (X1 ++ Y1) (X1 ++ Y1)) := ⟨by rw [L1.out]; simp only [List.append_assoc], List.length_append, half_same (by have := LN.out; omega) ORD.out.1.left ORD.out.2.1.left, StbF.refl _⟩
                      have L3 : Aside (SyE A (X1 ++ X2) (Y1 ++ Y2) B d) := sym_end ORD.out.1 ORD.out.2.1 ORD.out.2.2.1 ORD.out.2.2.2 L2.out.2.2 ⟨half_same (by have := LN.out; omega) ORD.out.1.right ORD.out.2.1.right, StbF.refl _⟩ (by rw [L2.out.1]; simp only [List.append_assoc])
                      go_wp2_with fail
                      go_end0
                      exact ⟨rfl, d, by omega, L3.out, S1.out⟩)

end Go.Proofs.YtlijndkpgmbapaaGreatDoor

/- slices.symMergeCmpFunc at faults, walked: the rows are cut, and each half is merged. Written by wip/tools/mkfas2.py. -/
namespace Go.Proofs.YtlijndkpgmbapaaGreatDoor
set_option maxRecDepth 100000
open Go.Shelf Go.RowKit Go.Lib Go.Sort Go.Proofs

set_option maxHeartbeats 40000000 in
set_option maxRecDepth 1000000 in
theorem sw_sym4 {P : Program} {k : Nat} (L : Prg P k) (g : Nat) (cb : Array Value) (eg : ∀ args w, (callFunc g args).run P w = .ok (.enter g args) w) (blk off cap : Nat) (d0 : Array Fa) (w0 : World) (hcmp : CmpLays P g cb encF k cfF blk off d0.size w0) (R : RowK encF k w0 blk off d0)
    (N a m b : Nat) (d : Array Fa) (A X Y B : List Fa) (w : World) (IH : SymC P k g cb blk off cap d0 w0 N) (hN : b - a ≤ N + 1) (hs : d0.size = d.size) (S : SWK encF k w0 blk off d w) (ham : a < m) (hmb : m < b) (hsz : d.size < 1152921504606846976) (hL : SyL a m b d A X Y B) (_ : ¬ m = a + 1) (_ : ¬ b = m + 1) (_ : ¬ (a + b) / 2 < m) :
    Calls P 169 #[.slice (some ⟨blk, off, none⟩) d.size cap, .int .i64 a, .int .i64 m, .int .i64 b, .func (.func g) #[] cb] w fun e w' => e = .returned (.tuple #[]) ∧ ∃ d' : Array Fa, d'.size = d.size ∧ SyE A X Y B d' ∧ SWK encF k w0 blk off d' w' := by
  have mixed := L.mixed; have t0 := L.t0; have a0 := L.a0; have z0 := L.z0; have v0 := L.v0; have t3 := L.t3; have a3 := L.a3; have z3 := L.z3; have v3 := L.v3; have t4 := L.t4; have a4 := L.a4; have z4 := L.z4; have v4 := L.v4; have t22 := L.t22; have a22 := L.a22; have z22 := L.z22; have v22 := L.v22; have t48 := L.t48; have a48 := L.a48; have z48 := L.z48; have v48 := L.v48; have t58 := L.t58; have a58 := L.a58; have z58 := L.z58; have v58 := L.v58
  have aE := L.aF; have zE := L.zF
  have FG := L.fSy
  have eRo : ∀ args w, (callFunc 172 args).run P w = .ok (.enter 172 args) w := enters_of L.fRo (by kernel_rfl) rfl
  have eSy : ∀ args w, (callFunc 169 args).run P w = .ok (.enter 169 args) w := enters_of L.fSy (by kernel_rfl) rfl
  have hb := hL.size
  have HC : Aside _ := hcmp
  have HIH : Aside (SymC P k g cb blk off cap d0 w0 N) := IH
  have HL : Aside (SyL a m b d A X Y B) := hL
  have S0 : Aside (SWK encF k w0 blk off d w) := S
  clear hcmp S hL IH
  have h1z : ¬ (m : Int) - (a : Int) = 1 := by omega
  have h1b : ((m : Int) - (a : Int) == 1) = false := by simp; omega
  have h2z : ¬ (b : Int) - (m : Int) = 1 := by omega
  have h2b : ((b : Int) - (m : Int) == 1) = false := by simp; omega
  obtain ⟨mid, hmid⟩ : ∃ mid, mid = (a + b) / 2 := ⟨_, rfl⟩
  have hmz : ((a : Int) + (b : Int)) / 2 = (mid : Int) := by omega
  have HM : Hid (mid = (a + b) / 2) := hmid
  have hm1 : a < mid := by omega
  have hm2 : mid < b := by omega
  have hm3 : 2 * mid ≤ a + b := by omega
  have hm4 : a + b ≤ 2 * mid + 1 := by omega
  have hmm : ¬ mid < m := by omega
  clear hmid
  have hmmz : ¬ (mid : Int) < (m : Int) := by omega
  have hmmb : decide ((mid : Int) < (m : Int)) = false := decide_eq_false hmmz
  go_enter FG, Tryz.ntmps169
  go_wp2
  go_loopg [20, 21] (m - a) (fun kx s10 s11 wr => ∃ p q : Nat, s10 = .int .i64 p ∧ s11 = .int .i64 q ∧ a ≤ p ∧ p ≤ q ∧ q ≤ m ∧ q - p ≤ kx ∧ Aside (SWK encF k w0 blk off d wr) ∧ Aside ((a < p → d[p - 1]!.1 ≤ d[mid + m - p]!.1) ∧ (q < m → d[mid + m - 1 - q]!.1 < d[q]!.1)))
  case atStart => exact ⟨a, m, rfl, rfl, Nat.le_refl _, by omega, Nat.le_refl _, Nat.le_refl _, S0, ⟨fun h => by omega, fun h => by omega⟩⟩
  case round =>
    clear S0
    obtain ⟨p, q, rfl, rfl, hmp, hpq, hqb, hkx, S1, E1⟩ := hrel
    by_cases hlt : p < q
    · have hltz : (p : Int) < (q : Int) := by omega
      have hq1 : (p + q) / 2 + 1 ≤ mid + m := by omega
      obtain ⟨jx, hjx⟩ : ∃ jx, jx = mid + m - 1 - (p + q) / 2 := ⟨_, rfl⟩
      have HJ : Hid (jx = mid + m - 1 - (p + q) / 2) := hjx
      have hjz : (mid : Int) + (m : Int) - 1 - ((p : Int) + (q : Int)) / 2 = (jx : Int) := by omega
      have hjw : IntKind.i64.wrap ((mid : Int) + (m : Int) - 1 - ((p : Int) + (q : Int)) / 2) = (jx : Int) := by rw [IntKind.wrap_i64]; omega
      have hjb : jx < b := by omega
      clear hjx
      by_cases hv : d[jx]!.1 < d[(p + q) / 2]!.1
      · have hv0 : True := trivial
        have ea24 : ((jx : Int)).toNat = jx := by omega
        have pa24 : (0 : Int) ≤ (jx : Int) := by omega
        have ba24 : (jx : Int) < (d.size : Int) := by omega
        have ra24 : IntKind.i64.wrap ((jx : Int)) = (jx : Int) := by rw [IntKind.wrap_i64]; omega
        have ea24c : (((p : Int) + (q : Int)) / 2).toNat = (p + q) / 2 := by omega
        have pa24c : (0 : Int) ≤ ((p : Int) + (q : Int)) / 2 := by omega
        have ba24c : ((p : Int) + (q : Int)) / 2 < (d.size : Int) := by omega
        have ra24c : IntKind.i64.wrap (((p : Int) + (q : Int)) / 2) = ((p : Int) + (q : Int)) / 2 := by rw [IntKind.wrap_i64]; omega
        obtain ⟨x24, hx24⟩ : ∃ x, x = d[jx]! := ⟨_, rfl⟩
        obtain ⟨y24, hy24⟩ : ∃ x, x = d[(p + q) / 2]! := ⟨_, rfl⟩
        have l24a := S1.out.ld R (by omega) P (jx) (by omega)
        have l24b := S1.out.ld R (by omega) P ((p + q) / 2) (by omega)
        rw [← hx24] at l24a
        rw [← hy24] at l24b
        have hc24 := S1.out.cmp HC.out (by omega) x24 y24
        have hv24 : cfF x24 y24 < 0 := by rw [hx24, hy24]; exact (cf_lt _ _).2 hv
        have hd24 : decide (cfF x24 y24 < 0) = true := decide_eq_true hv24
        clear hx24 hy24
        go_wp2_with fail
        go_quiet_grown (first | (go_at_fn g; refine Calls.grown_of (hc24 _ _)))
        have S2 : Aside (SWK encF k w0 blk off d (grow (wr.drewN nq) osq)) := S1.out.grown nq osq
        clear l24a l24b hc24 S1
        generalize grow (wr.drewN nq) osq = w2 at S2 ⊢
        clear nq osq
        go_wp2
        go_roundg ((p + q) / 2 - p)
        case measure => omega
        case rel =>
          have E2 : Aside ((a < p → d[p - 1]!.1 ≤ d[mid + m - p]!.1) ∧ ((p + q) / 2 < m → d[mid + m - 1 - (p + q) / 2]!.1 < d[(p + q) / 2]!.1)) := ⟨E1.out.1, fun _ => by rw [← HJ.out]; exact hv⟩
          exact ⟨p, (p + q) / 2, rfl, by rw [show ((p : Int) + (q : Int)) / 2 = (((p + q) / 2 : Nat) : Int) by omega], hmp, by omega, by omega, Nat.le_refl _, S2, E2⟩
      · have hv0 : True := trivial
        have ea24 : ((jx : Int)).toNat = jx := by omega
        have pa24 : (0 : Int) ≤ (jx : Int) := by omega
        have ba24 : (jx : Int) < (d.size : Int) := by omega
        have ra24 : IntKind.i64.wrap ((jx : Int)) = (jx : Int) := by rw [IntKind.wrap_i64]; omega
        have ea24c : (((p : Int) + (q : Int)) / 2).toNat = (p + q) / 2 := by omega
        have pa24c : (0 : Int) ≤ ((p : Int) + (q : Int)) / 2 := by omega
        have ba24c : ((p : Int) + (q : Int)) / 2 < (d.size : Int) := by omega
        have ra24c : IntKind.i64.wrap (((p : Int) + (q : Int)) / 2) = ((p : Int) + (q : Int)) / 2 := by rw [IntKind.wrap_i64]; omega
        obtain ⟨x24, hx24⟩ : ∃ x, x = d[jx]! := ⟨_, rfl⟩
        obtain ⟨y24, hy24⟩ : ∃ x, x = d[(p + q) / 2]! := ⟨_, rfl⟩
        have l24a := S1.out.ld R (by omega) P (jx) (by omega)
        have l24b := S1.out.ld R (by omega) P ((p + q) / 2) (by omega)
        rw [← hx24] at l24a
        rw [← hy24] at l24b
        have hc24 := S1.out.cmp HC.out (by omega) x24 y24
        have hv24 : ¬ cfF x24 y24 < 0 := by rw [hx24, hy24]; exact fun h => hv ((cf_lt _ _).1 h)
        have hd24 : decide (cfF x24 y24 < 0) = false := decide_eq_false hv24
        clear hx24 hy24
        go_wp2_with fail
        go_quiet_grown (first | (go_at_fn g; refine Calls.grown_of (hc24 _ _)))
        have S2 : Aside (SWK encF k w0 blk off d (grow (wr.drewN nq) osq)) := S1.out.grown nq osq
        clear l24a l24b hc24 S1
        generalize grow (wr.drewN nq) osq = w2 at S2 ⊢
        clear nq osq
        go_wp2
        go_roundg (q - ((p + q) / 2 + 1))
        case measure => omega
        case rel =>
          have E2 : Aside ((a < (p + q) / 2 + 1 → d[(p + q) / 2 + 1 - 1]!.1 ≤ d[mid + m - ((p + q) / 2 + 1)]!.1) ∧ (q < m → d[mid + m - 1 - q]!.1 < d[q]!.1)) := ⟨fun _ => by rw [Nat.add_sub_cancel, show mid + m - ((p + q) / 2 + 1) = jx by rw [HJ.out]; omega]; omega, E1.out.2⟩
          exact ⟨(p + q) / 2 + 1, q, by rw [show ((p : Int) + (q : Int)) / 2 + 1 = (((p + q) / 2 + 1 : Nat) : Int) by omega], rfl, by omega, by omega, hqb, Nat.le_refl _, S2, E2⟩
    · obtain rfl : p = q := by omega
      have hltz : ¬ (p : Int) < (p : Int) := by omega
      obtain ⟨X1, X2, Y1, Y2, hX, hY, l1, l2, l3, l4, h21, h12⟩ := HL.out.found ham hmb HM.out (Or.inr ⟨hmm, rfl, rfl⟩) hmp hqb E1.out.1 E1.out.2
      have lA := HL.out.ea
      have sX := HL.out.sX
      have sY := HL.out.sY
      have hl0 := HL.out.h
      rw [hX] at sX hl0
      rw [hY] at sY hl0
      obtain ⟨e, he⟩ : ∃ e, e = mid + m - p := ⟨_, rfl⟩
      have hez : (mid : Int) + (m : Int) - (p : Int) = (e : Int) := by omega
      rw [← he] at l3 l4
      have hp1 : a ≤ p := by omega
      have hp2 : p ≤ m := by omega
      have hp3 : p ≤ mid := by omega
      have he1 : m ≤ e := by omega
      have he2 : e ≤ b := by omega
      have he3 : mid ≤ e := by omega
      have he4 : e + p = mid + m := by omega
      have LN : Aside (X1.length = p - a ∧ X2.length = m - p ∧ Y1.length = e - m ∧ Y2.length = b - e ∧ a = A.length) := ⟨l1, l2, l3, l4, lA⟩
      have ORD : Aside (Srt (X1 ++ X2) ∧ Srt (Y1 ++ Y2) ∧ (∀ y ∈ Y1, ∀ x ∈ X2, y.1 < x.1) ∧ (∀ x ∈ X1, ∀ y ∈ Y2, x.1 ≤ y.1)) := ⟨sX, sY, h21, h12⟩
      have L0 : Aside (d.toList = A ++ (X1 ++ X2) ++ (Y1 ++ Y2) ++ B) := hl0
      subst hX hY
      clear l1 l2 l3 l4 lA sX sY hl0 h21 h12 he E1
      by_cases hr : p < m ∧ m < e
      · have hry : (p : Int) < (m : Int) := by omega
        have hrz : (m : Int) < (e : Int) := by omega
        by_cases hs1 : a < p ∧ p < mid
        · have hs1y : (a : Int) < (p : Int) := by omega
          have hs1z : (p : Int) < (mid : Int) := by omega
          by_cases hsb : mid < e ∧ e < b
          · have hsby : (mid : Int) < (e : Int) := by omega
            have hsbz : (e : Int) < (b : Int) := by omega
            first
              | (exfalso; omega)
              | (
                have hcall := sw_rotate L g cb blk off cap p m e d0 d (A ++ X1 ++ Y1 ++ X2 ++ Y2 ++ B) w0 wr R hs S1.out hr.1 hr.2 (by omega) (by omega) ⟨A ++ X1, X2, Y1, Y2 ++ B, by rw [L0.out]; simp only [List.append_assoc], LN.out.2.1.symm, LN.out.2.2.1.symm, by have := LN.out; simp; omega, by simp only [List.append_assoc]⟩
                clear S1
                go_wp2_with fail
                refine hcall.mono ?_
                rintro r w1 ⟨rfl, d1, hz1, hl1, S2'⟩
                have S2 : Aside (SWK encF k w0 blk off d1 w1) := S2'
                have L1 : Aside (d1.toList = A ++ X1 ++ Y1 ++ X2 ++ Y2 ++ B) := hl1
                clear hcall hl1 S2'
                have hcall := HIH.out a p mid d1 A X1 Y1 (X2 ++ Y2 ++ B) _ (by omega) (by omega) S2.out hs1.1 hs1.2 (by omega) ⟨by rw [L1.out]; simp only [List.append_assoc], LN.out.2.2.2.2, by have := LN.out; omega, by have := LN.out; omega, ORD.out.1.left, ORD.out.2.1.left⟩
                rw [hz1] at hcall
                clear S2
                go_wp2_with fail
                refine hcall.mono ?_
                rintro r w2 ⟨rfl, d2, hz2, ⟨Z1, hl2, hZ1, hst1⟩, S3'⟩
                have S3 : Aside (SWK encF k w0 blk off d2 w2) := S3'
                have hzl := half_len L1.out hl2 (by omega)
                have L2 : Aside (d2.toList = A ++ Z1 ++ X2 ++ Y2 ++ B ∧ Z1.length = X1.length + Y1.length ∧ Srt Z1 ∧ StbF (X1 ++ Y1) Z1) := ⟨by rw [hl2]; simp only [List.append_assoc], hzl, hZ1, hst1⟩
                clear hcall hl2 hZ1 hst1 S3' hzl
                have hzd : d2.size = d.size := by omega
                have hcall := HIH.out mid e b d2 (A ++ Z1) X2 Y2 B _ (by omega) (by omega) S3.out hsb.1 hsb.2 (by omega) ⟨L2.out.1, by have := LN.out; have := L2.out.2.1; rw [List.length_append]; omega, by have := LN.out; omega, by have := LN.out; omega, ORD.out.1.right, ORD.out.2.1.right⟩
                rw [hzd] at hcall
                clear S3
                go_wp2_with fail
                refine hcall.mono ?_
                rintro r w3 ⟨rfl, d3, hz3, ⟨Z2, hl3, hZ2, hst2⟩, S4'⟩
                have S4 : Aside (SWK encF k w0 blk off d3 w3) := S4'
                have L3 : Aside (SyE A (X1 ++ X2) (Y1 ++ Y2) B d3) := sym_end ORD.out.1 ORD.out.2.1 ORD.out.2.2.1 ORD.out.2.2.2 L2.out.2.2 ⟨hZ2, hst2⟩ hl3
                clear hcall hl3 hZ2 hst2 S4'
                go_wp2_with fail
                go_end0
                exact ⟨rfl, d3, by omega, L3.out, S4.out⟩)
          · by_cases hsbw : mid < e
            · have hsby : (mid : Int) < (e : Int) := by omega
              have hsbz : ¬ (e : Int) < (b : Int) := by omega
              first
                | (exfalso; omega)
                | (
                  have hcall := sw_rotate L g cb blk off cap p m e d0 d (A ++ X1 ++ Y1 ++ X2 ++ Y2 ++ B) w0 wr R hs S1.out hr.1 hr.2 (by omega) (by omega) ⟨A ++ X1, X2, Y1, Y2 ++ B, by rw [L0.out]; simp only [List.append_assoc], LN.out.2.1.symm, LN.out.2.2.1.symm, by have := LN.out; simp; omega, by simp only [List.append_assoc]⟩
                  clear S1
                  go_wp2_with fail
                  refine hcall.mono ?_
                  rintro r w1 ⟨rfl, d1, hz1, hl1, S2'⟩
                  have S2 : Aside (SWK encF k w0 blk off d1 w1) := S2'
                  have L1 : Aside (d1.toList = A ++ X1 ++ Y1 ++ X2 ++ Y2 ++ B) := hl1
                  clear hcall hl1 S2'
                  have hcall := HIH.out a p mid d1 A X1 Y1 (X2 ++ Y2 ++ B) _ (by omega) (by omega) S2.out hs1.1 hs1.2 (by omega) ⟨by rw [L1.out]; simp only [List.append_assoc], LN.out.2.2.2.2, by have := LN.out; omega, by have := LN.out; omega, ORD.out.1.left, ORD.out.2.1.left⟩
                  rw [hz1] at hcall
                  clear S2
                  go_wp2_with fail
                  refine hcall.mono ?_
                  rintro r w2 ⟨rfl, d2, hz2, ⟨Z1, hl2, hZ1, hst1⟩, S3'⟩
                  have S3 : Aside (SWK encF k w0 blk off d2 w2) := S3'
                  have hzl := half_len L1.out hl2 (by omega)
                  have L2 : Aside (d2.toList = A ++ Z1 ++ X2 ++ Y2 ++ B ∧ Z1.length = X1.length + Y1.length ∧ Srt Z1 ∧ StbF (X1 ++ Y1) Z1) := ⟨by rw [hl2]; simp only [List.append_assoc], hzl, hZ1, hst1⟩
                  clear hcall hl2 hZ1 hst1 S3' hzl
                  have L3 : Aside (SyE A (X1 ++ X2) (Y1 ++ Y2) B d2) := sym_end ORD.out.1 ORD.out.2.1 ORD.out.2.2.1 ORD.out.2.2.2 L2.out.2.2 ⟨half_same (by have := LN.out; omega) ORD.out.1.right ORD.out.2.1.right, StbF.refl _⟩ (by rw [L2.out.1]; simp only [List.append_assoc])
                  go_wp2_with fail
                  go_end0
                  exact ⟨rfl, d2, by omega, L3.out, S3.out⟩)
            · have hsby : ¬ (mid : Int) < (e : Int) := by omega
              first
                | (exfalso; omega)
                | (
                  have hcall := sw_rotate L g cb blk off cap p m e d0 d (A ++ X1 ++ Y1 ++ X2 ++ Y2 ++ B) w0 wr R hs S1.out hr.1 hr.2 (by omega) (by omega) ⟨A ++ X1, X2, Y1, Y2 ++ B, by rw [L0.out]; simp only [List.append_assoc], LN.out.2.1.symm, LN.out.2.2.1.symm, by have := LN.out; simp; omega, by simp only [List.append_assoc]⟩
                  clear S1
                  go_wp2_with fail
                  refine hcall.mono ?_
                  rintro r w1 ⟨rfl, d1, hz1, hl1, S2'⟩
                  have S2 : Aside (SWK encF k w0 blk off d1 w1) := S2'
                  have L1 : Aside (d1.toList = A ++ X1 ++ Y1 ++ X2 ++ Y2 ++ B) := hl1
                  clear hcall hl1 S2'
                  have hcall := HIH.out a p mid d1 A X1 Y1 (X2 ++ Y2 ++ B) _ (by omega) (by omega) S2.out hs1.1 hs1.2 (by omega) ⟨by rw [L1.out]; simp only [List.append_assoc], LN.out.2.2.2.2, by have := LN.out; omega, by have := LN.out; omega, ORD.out.1.left, ORD.out.2.1.left⟩
                  rw [hz1] at hcall
                  clear S2
                  go_wp2_with fail
                  refine hcall.mono ?_
                  rintro r w2 ⟨rfl, d2, hz2, ⟨Z1, hl2, hZ1, hst1⟩, S3'⟩
                  have S3 : Aside (SWK encF k w0 blk off d2 w2) := S3'
                  have hzl := half_len L1.out hl2 (by omega)
                  have L2 : Aside (d2.toList = A ++ Z1 ++ X2 ++ Y2 ++ B ∧ Z1.length = X1.length + Y1.length ∧ Srt Z1 ∧ StbF (X1 ++ Y1) Z1) := ⟨by rw [hl2]; simp only [List.append_assoc], hzl, hZ1, hst1⟩
                  clear hcall hl2 hZ1 hst1 S3' hzl
                  have L3 : Aside (SyE A (X1 ++ X2) (Y1 ++ Y2) B d2) := sym_end ORD.out.1 ORD.out.2.1 ORD.out.2.2.1 ORD.out.2.2.2 L2.out.2.2 ⟨half_same (by have := LN.out; omega) ORD.out.1.right ORD.out.2.1.right, StbF.refl _⟩ (by rw [L2.out.1]; simp only [List.append_assoc])
                  go_wp2_with fail
                  go_end0
                  exact ⟨rfl, d2, by omega, L3.out, S3.out⟩)
        · by_cases hs1w : a < p
          · have hs1y : (a : Int) < (p : Int) := by omega
            have hs1z : ¬ (p : Int) < (mid : Int) := by omega
            by_cases hsb : mid < e ∧ e < b
            · have hsby : (mid : Int) < (e : Int) := by omega
              have hsbz : (e : Int) < (b : Int) := by omega
              first
                | (exfalso; omega)
                | (
                  have hcall := sw_rotate L g cb blk off cap p m e d0 d (A ++ X1 ++ Y1 ++ X2 ++ Y2 ++ B) w0 wr R hs S1.out hr.1 hr.2 (by omega) (by omega) ⟨A ++ X1, X2, Y1, Y2 ++ B, by rw [L0.out]; simp only [List.append_assoc], LN.out.2.1.symm, LN.out.2.2.1.symm, by have := LN.out; simp; omega, by simp only [List.append_assoc]⟩
                  clear S1
                  go_wp2_with fail
                  refine hcall.mono ?_
                  rintro r w1 ⟨rfl, d1, hz1, hl1, S2'⟩
                  have S2 : Aside (SWK encF k w0 blk off d1 w1) := S2'
                  have L1 : Aside (d1.toList = A ++ X1 ++ Y1 ++ X2 ++ Y2 ++ B) := hl1
                  clear hcall hl1 S2'
                  have L2 : Aside (d1.toList = A ++ (X1 ++ Y1) ++ X2 ++ Y2 ++ B ∧ (X1 ++ Y1).length = X1.length + Y1.length ∧ Srt (X1 ++ Y1) ∧ StbF (X1 ++ Y1) (X1 ++ Y1)) := ⟨by rw [L1.out]; simp only [List.append_assoc], List.length_append, half_same (by have := LN.out; omega) ORD.out.1.left ORD.out.2.1.left, StbF.refl _⟩
                  have hzd : d1.size = d.size := by omega
                  have hcall := HIH.out mid e b d1 (A ++ (X1 ++ Y1)) X2 Y2 B _ (by omega) (by omega) S2.out hsb.1 hsb.2 (by omega) ⟨L2.out.1, by have := LN.out; have := L2.out.2.1; rw [List.length_append]; omega, by have := LN.out; omega, by have := LN.out; omega, ORD.out.1.right, ORD.out.2.1.right⟩
                  rw [hzd] at hcall
                  clear S2
                  go_wp2_with fail
                  refine hcall.mono ?_
                  rintro r w3 ⟨rfl, d3, hz3, ⟨Z2, hl3, hZ2, hst2⟩, S4'⟩
                  have S4 : Aside (SWK encF k w0 blk off d3 w3) := S4'
                  have L3 : Aside (SyE A (X1 ++ X2) (Y1 ++ Y2) B d3) := sym_end ORD.out.1 ORD.out.2.1 ORD.out.2.2.1 ORD.out.2.2.2 L2.out.2.2 ⟨hZ2, hst2⟩ hl3
                  clear hcall hl3 hZ2 hst2 S4'
                  go_wp2_with fail
                  go_end0
                  exact ⟨rfl, d3, by omega, L3.out, S4.out⟩)
            · by_cases hsbw : mid < e
              · have hsby : (mid : Int) < (e : Int) := by omega
                have hsbz : ¬ (e : Int) < (b : Int) := by omega
                first
                  | (exfalso; omega)
                  | (
                    have hcall := sw_rotate L g cb blk off cap p m e d0 d (A ++ X1 ++ Y1 ++ X2 ++ Y2 ++ B) w0 wr R hs S1.out hr.1 hr.2 (by omega) (by omega) ⟨A ++ X1, X2, Y1, Y2 ++ B, by rw [L0.out]; simp only [List.append_assoc], LN.out.2.1.symm, LN.out.2.2.1.symm, by have := LN.out; simp; omega, by simp only [List.append_assoc]⟩
                    clear S1
                    go_wp2_with fail
                    refine hcall.mono ?_
                    rintro r w1 ⟨rfl, d1, hz1, hl1, S2'⟩
                    have S2 : Aside (SWK encF k w0 blk off d1 w1) := S2'
                    have L1 : Aside (d1.toList = A ++ X1 ++ Y1 ++ X2 ++ Y2 ++ B) := hl1
                    clear hcall hl1 S2'
                    have L2 : Aside (d1.toList = A ++ (X1 ++ Y1) ++ X2 ++ Y2 ++ B ∧ (X1 ++ Y1).length = X1.length + Y1.length ∧ Srt (X1 ++ Y1) ∧ StbF (X1 ++ Y1) (X1 ++ Y1)) := ⟨by rw [L1.out]; simp only [List.append_assoc], List.length_append, half_same (by have := LN.out; omega) ORD.out.1.left ORD.out.2.1.left, StbF.refl _⟩
                    have L3 : Aside (SyE A (X1 ++ X2) (Y1 ++ Y2) B d1) := sym_end ORD.out.1 ORD.out.2.1 ORD.out.2.2.1 ORD.out.2.2.2 L2.out.2.2 ⟨half_same (by have := LN.out; omega) ORD.out.1.right ORD.out.2.1.right, StbF.refl _⟩ (by rw [L2.out.1]; simp only [List.append_assoc])
                    go_wp2_with fail
                    go_end0
                    exact ⟨rfl, d1, by omega, L3.out, S2.out⟩)
              · have hsby : ¬ (mid : Int) < (e : Int) := by omega
                first
                  | (exfalso; omega)
                  | (
                    have hcall := sw_rotate L g cb blk off cap p m e d0 d (A ++ X1 ++ Y1 ++ X2 ++ Y2 ++ B) w0 wr R hs S1.out hr.1 hr.2 (by omega) (by omega) ⟨A ++ X1, X2, Y1, Y2 ++ B, by rw [L0.out]; simp only [List.append_assoc], LN.out.2.1.symm, LN.out.2.2.1.symm, by have := LN.out; simp; omega, by simp only [List.append_assoc]⟩
                    clear S1
                    go_wp2_with fail
                    refine hcall.mono ?_
                    rintro r w1 ⟨rfl, d1, hz1, hl1, S2'⟩
                    have S2 : Aside (SWK encF k w0 blk off d1 w1) := S2'
                    have L1 : Aside (d1.toList = A ++ X1 ++ Y1 ++ X2 ++ Y2 ++ B) := hl1
                    clear hcall hl1 S2'
                    have L2 : Aside (d1.toList = A ++ (X1 ++ Y1) ++ X2 ++ Y2 ++ B ∧ (X1 ++ Y1).length = X1.length + Y1.length ∧ Srt (X1 ++ Y1) ∧ StbF (X1 ++ Y1) (X1 ++ Y1)) := ⟨by rw [L1.out]; simp only [List.append_assoc], List.length_append, half_same (by have := LN.out; omega) ORD.out.1.left ORD.out.2.1.left, StbF.refl _⟩
                    have L3 : Aside (SyE A (X1 ++ X2) (Y1 ++ Y2) B d1) := sym_end ORD.out.1 ORD.out.2.1 ORD.out.2.2.1 ORD.out.2.2.2 L2.out.2.2 ⟨half_same (by have := LN.out; omega) ORD.out.1.right ORD.out.2.1.right, StbF.refl _⟩ (by rw [L2.out.1]; simp only [List.append_assoc])
                    go_wp2_with fail
                    go_end0
                    exact ⟨rfl, d1, by omega, L3.out, S2.out⟩)
          · have hs1y : ¬ (a : Int) < (p : Int) := by omega
            by_cases hsb : mid < e ∧ e < b
            · have hsby : (mid : Int) < (e : Int) := by omega
              have hsbz : (e : Int) < (b : Int) := by omega
              first
                | (exfalso; omega)
                | (
                  have hcall := sw_rotate L g cb blk off cap p m e d0 d (A ++ X1 ++ Y1 ++ X2 ++ Y2 ++ B) w0 wr R hs S1.out hr.1 hr.2 (by omega) (by omega) ⟨A ++ X1, X2, Y1, Y2 ++ B, by rw [L0.out]; simp only [List.append_assoc], LN.out.2.1.symm, LN.out.2.2.1.symm, by have := LN.out; simp; omega, by simp only [List.append_assoc]⟩
                  clear S1
                  go_wp2_with fail
                  refine hcall.mono ?_
                  rintro r w1 ⟨rfl, d1, hz1, hl1, S2'⟩
                  have S2 : Aside (SWK encF k w0 blk off d1 w1) := S2'
                  have L1 : Aside (d1.toList = A ++ X1 ++ Y1 ++ X2 ++ Y2 ++ B) := hl1
                  clear hcall hl1 S2'
                  have L2 : Aside (d1.toList = A ++ (X1 ++ Y1) ++ X2 ++ Y2 ++ B ∧ (X1 ++ Y1).length = X1.length + Y1.length ∧ Srt (X1 ++ Y1) ∧ StbF (X1 ++ Y1) (X1 ++ Y1)) := ⟨by rw [L1.out]; simp only [List.append_assoc], List.length_append, half_same (by have := LN.out; omega) ORD.out.1.left ORD.out.2.1.left, StbF.refl _⟩
                  have hzd : d1.size = d.size := by omega
                  have hcall := HIH.out mid e b d1 (A ++ (X1 ++ Y1)) X2 Y2 B _ (by omega) (by omega) S2.out hsb.1 hsb.2 (by omega) ⟨L2.out.1, by have := LN.out; have := L2.out.2.1; rw [List.length_append]; omega, by have := LN.out; omega, by have := LN.out; omega, ORD.out.1.right, ORD.out.2.1.right⟩
                  rw [hzd] at hcall
                  clear S2
                  go_wp2_with fail
                  refine hcall.mono ?_
                  rintro r w3 ⟨rfl, d3, hz3, ⟨Z2, hl3, hZ2, hst2⟩, S4'⟩
                  have S4 : Aside (SWK encF k w0 blk off d3 w3) := S4'
                  have L3 : Aside (SyE A (X1 ++ X2) (Y1 ++ Y2) B d3) := sym_end ORD.out.1 ORD.out.2.1 ORD.out.2.2.1 ORD.out.2.2.2 L2.out.2.2 ⟨hZ2, hst2⟩ hl3
                  clear hcall hl3 hZ2 hst2 S4'
                  go_wp2_with fail
                  go_end0
                  exact ⟨rfl, d3, by omega, L3.out, S4.out⟩)
            · by_cases hsbw : mid < e
              · have hsby : (mid : Int) < (e : Int) := by omega
                have hsbz : ¬ (e : Int) < (b : Int) := by omega
                first
                  | (exfalso; omega)
                  | (
                    have hcall := sw_rotate L g cb blk off cap p m e d0 d (A ++ X1 ++ Y1 ++ X2 ++ Y2 ++ B) w0 wr R hs S1.out hr.1 hr.2 (by omega) (by omega) ⟨A ++ X1, X2, Y1, Y2 ++ B, by rw [L0.out]; simp only [List.append_assoc], LN.out.2.1.symm, LN.out.2.2.1.symm, by have := LN.out; simp; omega, by simp only [List.append_assoc]⟩
                    clear S1
                    go_wp2_with fail
                    refine hcall.mono ?_
                    rintro r w1 ⟨rfl, d1, hz1, hl1, S2'⟩
                    have S2 : Aside (SWK encF k w0 blk off d1 w1) := S2'
                    have L1 : Aside (d1.toList = A ++ X1 ++ Y1 ++ X2 ++ Y2 ++ B) := hl1
                    clear hcall hl1 S2'
                    have L2 : Aside (d1.toList = A ++ (X1 ++ Y1) ++ X2 ++ Y2 ++ B ∧ (X1 ++ Y1).length = X1.length + Y1.length ∧ Srt (X1 ++ Y1) ∧ StbF (X1 ++ Y1) (X1 ++ Y1)) := ⟨by rw [L1.out]; simp only [List.append_assoc], List.length_append, half_same (by have := LN.out; omega) ORD.out.1.left ORD.out.2.1.left, StbF.refl _⟩
                    have L3 : Aside (SyE A (X1 ++ X2) (Y1 ++ Y2) B d1) := sym_end ORD.out.1 ORD.out.2.1 ORD.out.2.2.1 ORD.out.2.2.2 L2.out.2.2 ⟨half_same (by have := LN.out; omega) ORD.out.1.right ORD.out.2.1.right, StbF.refl _⟩ (by rw [L2.out.1]; simp only [List.append_assoc])
                    go_wp2_with fail
                    go_end0
                    exact ⟨rfl, d1, by omega, L3.out, S2.out⟩)
              · have hsby : ¬ (mid : Int) < (e : Int) := by omega
                first
                  | (exfalso; omega)
                  | (
                    have hcall := sw_rotate L g cb blk off cap p m e d0 d (A ++ X1 ++ Y1 ++ X2 ++ Y2 ++ B) w0 wr R hs S1.out hr.1 hr.2 (by omega) (by omega) ⟨A ++ X1, X2, Y1, Y2 ++ B, by rw [L0.out]; simp only [List.append_assoc], LN.out.2.1.symm, LN.out.2.2.1.symm, by have := LN.out; simp; omega, by simp only [List.append_assoc]⟩
                    clear S1
                    go_wp2_with fail
                    refine hcall.mono ?_
                    rintro r w1 ⟨rfl, d1, hz1, hl1, S2'⟩
                    have S2 : Aside (SWK encF k w0 blk off d1 w1) := S2'
                    have L1 : Aside (d1.toList = A ++ X1 ++ Y1 ++ X2 ++ Y2 ++ B) := hl1
                    clear hcall hl1 S2'
                    have L2 : Aside (d1.toList = A ++ (X1 ++ Y1) ++ X2 ++ Y2 ++ B ∧ (X1 ++ Y1).length = X1.length + Y1.length ∧ Srt (X1 ++ Y1) ∧ StbF (X1 ++ Y1) (X1 ++ Y1)) := ⟨by rw [L1.out]; simp only [List.append_assoc], List.length_append, half_same (by have := LN.out; omega) ORD.out.1.left ORD.out.2.1.left, StbF.refl _⟩
                    have L3 : Aside (SyE A (X1 ++ X2) (Y1 ++ Y2) B d1) := sym_end ORD.out.1 ORD.out.2.1 ORD.out.2.2.1 ORD.out.2.2.2 L2.out.2.2 ⟨half_same (by have := LN.out; omega) ORD.out.1.right ORD.out.2.1.right, StbF.refl _⟩ (by rw [L2.out.1]; simp only [List.append_assoc])
                    go_wp2_with fail
                    go_end0
                    exact ⟨rfl, d1, by omega, L3.out, S2.out⟩)
      · by_cases hrw : p < m
        · have hry : (p : Int) < (m : Int) := by omega
          have hrz : ¬ (m : Int) < (e : Int) := by omega
          by_cases hs1 : a < p ∧ p < mid
          · have hs1y : (a : Int) < (p : Int) := by omega
            have hs1z : (p : Int) < (mid : Int) := by omega
            by_cases hsb : mid < e ∧ e < b
            · have hsby : (mid : Int) < (e : Int) := by omega
              have hsbz : (e : Int) < (b : Int) := by omega
              first
                | (exfalso; omega)
                | (
                  have L1 : Aside (d.toList = A ++ X1 ++ Y1 ++ X2 ++ Y2 ++ B) := L0.out.trans (cross_same (by have := LN.out; omega))
                  have hcall := HIH.out a p mid d A X1 Y1 (X2 ++ Y2 ++ B) _ (by omega) (by omega) S1.out hs1.1 hs1.2 (by omega) ⟨by rw [L1.out]; simp only [List.append_assoc], LN.out.2.2.2.2, by have := LN.out; omega, by have := LN.out; omega, ORD.out.1.left, ORD.out.2.1.left⟩
                  clear S1
                  go_wp2_with fail
                  refine hcall.mono ?_
                  rintro r w2 ⟨rfl, d2, hz2, ⟨Z1, hl2, hZ1, hst1⟩, S3'⟩
                  have S3 : Aside (SWK encF k w0 blk off d2 w2) := S3'
                  have hzl := half_len L1.out hl2 (by omega)
                  have L2 : Aside (d2.toList = A ++ Z1 ++ X2 ++ Y2 ++ B ∧ Z1.length = X1.length + Y1.length ∧ Srt Z1 ∧ StbF (X1 ++ Y1) Z1) := ⟨by rw [hl2]; simp only [List.append_assoc], hzl, hZ1, hst1⟩
                  clear hcall hl2 hZ1 hst1 S3' hzl
                  have hzd : d2.size = d.size := by omega
                  have hcall := HIH.out mid e b d2 (A ++ Z1) X2 Y2 B _ (by omega) (by omega) S3.out hsb.1 hsb.2 (by omega) ⟨L2.out.1, by have := LN.out; have := L2.out.2.1; rw [List.length_append]; omega, by have := LN.out; omega, by have := LN.out; omega, ORD.out.1.right, ORD.out.2.1.right⟩
                  rw [hzd] at hcall
                  clear S3
                  go_wp2_with fail
                  refine hcall.mono ?_
                  rintro r w3 ⟨rfl, d3, hz3, ⟨Z2, hl3, hZ2, hst2⟩, S4'⟩
                  have S4 : Aside (SWK encF k w0 blk off d3 w3) := S4'
                  have L3 : Aside (SyE A (X1 ++ X2) (Y1 ++ Y2) B d3) := sym_end ORD.out.1 ORD.out.2.1 ORD.out.2.2.1 ORD.out.2.2.2 L2.out.2.2 ⟨hZ2, hst2⟩ hl3
                  clear hcall hl3 hZ2 hst2 S4'
                  go_wp2_with fail
                  go_end0
                  exact ⟨rfl, d3, by omega, L3.out, S4.out⟩)
            · by_cases hsbw : mid < e
              · have hsby : (mid : Int) < (e : Int) := by omega
                have hsbz : ¬ (e : Int) < (b : Int) := by omega
                first
                  | (exfalso; omega)
                  | (
                    have L1 : Aside (d.toList = A ++ X1 ++ Y1 ++ X2 ++ Y2 ++ B) := L0.out.trans (cross_same (by have := LN.out; omega))
                    have hcall := HIH.out a p mid d A X1 Y1 (X2 ++ Y2 ++ B) _ (by omega) (by omega) S1.out hs1.1 hs1.2 (by omega) ⟨by rw [L1.out]; simp only [List.append_assoc], LN.out.2.2.2.2, by have := LN.out; omega, by have := LN.out; omega, ORD.out.1.left, ORD.out.2.1.left⟩
                    clear S1
                    go_wp2_with fail
                    refine hcall.mono ?_
                    rintro r w2 ⟨rfl, d2, hz2, ⟨Z1, hl2, hZ1, hst1⟩, S3'⟩
                    have S3 : Aside (SWK encF k w0 blk off d2 w2) := S3'
                    have hzl := half_len L1.out hl2 (by omega)
                    have L2 : Aside (d2.toList = A ++ Z1 ++ X2 ++ Y2 ++ B ∧ Z1.length = X1.length + Y1.length ∧ Srt Z1 ∧ StbF (X1 ++ Y1) Z1) := ⟨by rw [hl2]; simp only [List.append_assoc], hzl, hZ1, hst1⟩
                    clear hcall hl2 hZ1 hst1 S3' hzl
                    have L3 : Aside (SyE A (X1 ++ X2) (Y1 ++ Y2) B d2) := sym_end ORD.out.1 ORD.out.2.1 ORD.out.2.2.1 ORD.out.2.2.2 L2.out.2.2 ⟨half_same (by have := LN.out; omega) ORD.out.1.right ORD.out.2.1.right, StbF.refl _⟩ (by rw [L2.out.1]; simp only [List.append_assoc])
                    go_wp2_with fail
                    go_end0
                    exact ⟨rfl, d2, by omega, L3.out, S3.out⟩)
              · have hsby : ¬ (mid : Int) < (e : Int) := by omega
                first
                  | (exfalso; omega)
                  | (
                    have L1 : Aside (d.toList = A ++ X1 ++ Y1 ++ X2 ++ Y2 ++ B) := L0.out.trans (cross_same (by have := LN.out; omega))
                    have hcall := HIH.out a p mid d A X1 Y1 (X2 ++ Y2 ++ B) _ (by omega) (by omega) S1.out hs1.1 hs1.2 (by omega) ⟨by rw [L1.out]; simp only [List.append_assoc], LN.out.2.2.2.2, by have := LN.out; omega, by have := LN.out; omega, ORD.out.1.left, ORD.out.2.1.left⟩
                    clear S1
                    go_wp2_with fail
                    refine hcall.mono ?_
                    rintro r w2 ⟨rfl, d2, hz2, ⟨Z1, hl2, hZ1, hst1⟩, S3'⟩
                    have S3 : Aside (SWK encF k w0 blk off d2 w2) := S3'
                    have hzl := half_len L1.out hl2 (by omega)
                    have L2 : Aside (d2.toList = A ++ Z1 ++ X2 ++ Y2 ++ B ∧ Z1.length = X1.length + Y1.length ∧ Srt Z1 ∧ StbF (X1 ++ Y1) Z1) := ⟨by rw [hl2]; simp only [List.append_assoc], hzl, hZ1, hst1⟩
                    clear hcall hl2 hZ1 hst1 S3' hzl
                    have L3 : Aside (SyE A (X1 ++ X2) (Y1 ++ Y2) B d2) := sym_end ORD.out.1 ORD.out.2.1 ORD.out.2.2.1 ORD.out.2.2.2 L2.out.2.2 ⟨half_same (by have := LN.out; omega) ORD.out.1.right ORD.out.2.1.right, StbF.refl _⟩ (by rw [L2.out.1]; simp only [List.append_assoc])
                    go_wp2_with fail
                    go_end0
                    exact ⟨rfl, d2, by omega, L3.out, S3.out⟩)
          · by_cases hs1w : a < p
            · have hs1y : (a : Int) < (p : Int) := by omega
              have hs1z : ¬ (p : Int) < (mid : Int) := by omega
              by_cases hsb : mid < e ∧ e < b
              · have hsby : (mid : Int) < (e : Int) := by omega
                have hsbz : (e : Int) < (b : Int) := by omega
                first
                  | (exfalso; omega)
                  | (
                    have L1 : Aside (d.toList = A ++ X1 ++ Y1 ++ X2 ++ Y2 ++ B) := L0.out.trans (cross_same (by have := LN.out; omega))
                    have L2 : Aside (d.toList = A ++ (X1 ++ Y1) ++ X2 ++ Y2 ++ B ∧ (X1 ++ Y1).length = X1.length + Y1.length ∧ Srt (X1 ++ Y1) ∧ StbF (X1 ++ Y1) (X1 ++ Y1)) := ⟨by rw [L1.out]; simp only [List.append_assoc], List.length_append, half_same (by have := LN.out; omega) ORD.out.1.left ORD.out.2.1.left, StbF.refl _⟩
                    have hzd : d.size = d.size := by omega
                    have hcall := HIH.out mid e b d (A ++ (X1 ++ Y1)) X2 Y2 B _ (by omega) (by omega) S1.out hsb.1 hsb.2 (by omega) ⟨L2.out.1, by have := LN.out; have := L2.out.2.1; rw [List.length_append]; omega, by have := LN.out; omega, by have := LN.out; omega, ORD.out.1.right, ORD.out.2.1.right⟩
                    clear S1
                    go_wp2_with fail
                    refine hcall.mono ?_
                    rintro r w3 ⟨rfl, d3, hz3, ⟨Z2, hl3, hZ2, hst2⟩, S4'⟩
                    have S4 : Aside (SWK encF k w0 blk off d3 w3) := S4'
                    have L3 : Aside (SyE A (X1 ++ X2) (Y1 ++ Y2) B d3) := sym_end ORD.out.1 ORD.out.2.1 ORD.out.2.2.1 ORD.out.2.2.2 L2.out.2.2 ⟨hZ2, hst2⟩ hl3
                    clear hcall hl3 hZ2 hst2 S4'
                    go_wp2_with fail
                    go_end0
                    exact ⟨rfl, d3, by omega, L3.out, S4.out⟩)
              · by_cases hsbw : mid < e
                · have hsby : (mid : Int) < (e : Int) := by omega
                  have hsbz : ¬ (e : Int) < (b : Int) := by omega
                  first
                    | (exfalso; omega)
                    | (
                      have L1 : Aside (d.toList = A ++ X1 ++ Y1 ++ X2 ++ Y2 ++ B) := L0.out.trans (cross_same (by have := LN.out; omega))
                      have L2 : Aside (d.toList = A ++ (X1 ++ Y1) ++ X2 ++ Y2 ++ B ∧ (X1 ++ Y1).length = X1.length + Y1.length ∧ Srt (X1 ++ Y1) ∧ StbF (X1 ++ Y1) (X1 ++ Y1)) := ⟨by rw [L1.out]; simp only [List.append_assoc], List.length_append, half_same (by have := LN.out; omega) ORD.out.1.left ORD.out.2.1.left, StbF.refl _⟩
                      have L3 : Aside (SyE A (X1 ++ X2) (Y1 ++ Y2) B d) := sym_end ORD.out.1 ORD.out.2.1 ORD.out.2.2.1 ORD.out.2.2.2 L2.out.2.2 ⟨half_same (by have := LN.out; omega) ORD.out.1.right ORD.out.2.1.right, StbF.refl _⟩ (by rw [L2.out.1]; simp only [List.append_assoc])
                      go_wp2_with fail
                      go_end0
                      exact ⟨rfl, d, by omega, L3.out, S1.out⟩)
                · have hsby : ¬ (mid : Int) < (e : Int) := by omega
                  first
                    | (exfalso; omega)
                    | (
                      have L1 : Aside (d.toList = A ++ X1 ++ Y1 ++ X2 ++ Y2 ++ B) := L0.out.trans (cross_same (by have := LN.out; omega))
                      have L2 : Aside (d.toList = A ++ (X1 ++ Y1) ++ X2 ++ Y2 ++ B ∧ (X1 ++ Y1).length = X1.length + Y1.length ∧ Srt (X1 ++ Y1) ∧ StbF (X1 ++ Y1) (X1 ++ Y1)) := ⟨by rw [L1.out]; simp only [List.append_assoc], List.length_append, half_same (by have := LN.out; omega) ORD.out.1.left ORD.out.2.1.left, StbF.refl _⟩
                      have L3 : Aside (SyE A (X1 ++ X2) (Y1 ++ Y2) B d) := sym_end ORD.out.1 ORD.out.2.1 ORD.out.2.2.1 ORD.out.2.2.2 L2.out.2.2 ⟨half_same (by have := LN.out; omega) ORD.out.1.right ORD.out.2.1.right, StbF.refl _⟩ (by rw [L2.out.1]; simp only [List.append_assoc])
                      go_wp2_with fail
                      go_end0
                      exact ⟨rfl, d, by omega, L3.out, S1.out⟩)
            · have hs1y : ¬ (a : Int) < (p : Int) := by omega
              by_cases hsb : mid < e ∧ e < b
              · have hsby : (mid : Int) < (e : Int) := by omega
                have hsbz : (e : Int) < (b : Int) := by omega
                first
                  | (exfalso; omega)
                  | (
                    have L1 : Aside (d.toList = A ++ X1 ++ Y1 ++ X2 ++ Y2 ++ B) := L0.out.trans (cross_same (by have := LN.out; omega))
                    have L2 : Aside (d.toList = A ++ (X1 ++ Y1) ++ X2 ++ Y2 ++ B ∧ (X1 ++ Y1).length = X1.length + Y1.length ∧ Srt (X1 ++ Y1) ∧ StbF (X1 ++ Y1) (X1 ++ Y1)) := ⟨by rw [L1.out]; simp only [List.append_assoc], List.length_append, half_same (by have := LN.out; omega) ORD.out.1.left ORD.out.2.1.left, StbF.refl _⟩
                    have hzd : d.size = d.size := by omega
                    have hcall := HIH.out mid e b d (A ++ (X1 ++ Y1)) X2 Y2 B _ (by omega) (by omega) S1.out hsb.1 hsb.2 (by omega) ⟨L2.out.1, by have := LN.out; have := L2.out.2.1; rw [List.length_append]; omega, by have := LN.out; omega, by have := LN.out; omega, ORD.out.1.right, ORD.out.2.1.right⟩
                    clear S1
                    go_wp2_with fail
                    refine hcall.mono ?_
                    rintro r w3 ⟨rfl, d3, hz3, ⟨Z2, hl3, hZ2, hst2⟩, S4'⟩
                    have S4 : Aside (SWK encF k w0 blk off d3 w3) := S4'
                    have L3 : Aside (SyE A (X1 ++ X2) (Y1 ++ Y2) B d3) := sym_end ORD.out.1 ORD.out.2.1 ORD.out.2.2.1 ORD.out.2.2.2 L2.out.2.2 ⟨hZ2, hst2⟩ hl3
                    clear hcall hl3 hZ2 hst2 S4'
                    go_wp2_with fail
                    go_end0
                    exact ⟨rfl, d3, by omega, L3.out, S4.out⟩)
              · by_cases hsbw : mid < e
                · have hsby : (mid : Int) < (e : Int) := by omega
                  have hsbz : ¬ (e : Int) < (b : Int) := by omega
                  first
                    | (exfalso; omega)
                    | (
                      have L1 : Aside (d.toList = A ++ X1 ++ Y1 ++ X2 ++ Y2 ++ B) := L0.out.trans (cross_same (by have := LN.out; omega))
                      have L2 : Aside (d.toList = A ++ (X1 ++ Y1) ++ X2 ++ Y2 ++ B ∧ (X1 ++ Y1).length = X1.length + Y1.length ∧ Srt (X1 ++ Y1) ∧ StbF (X1 ++ Y1) (X1 ++ Y1)) := ⟨by rw [L1.out]; simp only [List.append_assoc], List.length_append, half_same (by have := LN.out; omega) ORD.out.1.left ORD.out.2.1.left, StbF.refl _⟩
                      have L3 : Aside (SyE A (X1 ++ X2) (Y1 ++ Y2) B d) := sym_end ORD.out.1 ORD.out.2.1 ORD.out.2.2.1 ORD.out.2.2.2 L2.out.2.2 ⟨half_same (by have := LN.out; omega) ORD.out.1.right ORD.out.2.1.right, StbF.refl _⟩ (by rw [L2.out.1]; simp only [List.append_assoc])
                      go_wp2_with fail
                      go_end0
                      exact ⟨rfl, d, by omega, L3.out, S1.out⟩)
                · have hsby : ¬ (mid : Int) < (e : Int) := by omega
                  first
                    | (exfalso; omega)
                    | (
                      have L1 : Aside (d.toList = A ++ X1 ++ Y1 ++ X2 ++ Y2 ++ B) := L0.out.trans (cross_same (by have := LN.out; omega))
                      have L2 : Aside (d.toList = A ++ (X1 ++ Y1) ++ X2 ++ Y2 ++ B ∧ (X1 ++ Y1).length = X1.length + Y1.length ∧ Srt (X1 ++ Y1) ∧ StbF (X1 ++ Y1) (X1 ++ Y1)) := ⟨by rw [L1.out]; simp only [List.append_assoc], List.length_append, half_same (by have := LN.out; omega) ORD.out.1.left ORD.out.2.1.left, StbF.refl _⟩
                      have L3 : Aside (SyE A (X1 ++ X2) (Y1 ++ Y2) B d) := sym_end ORD.out.1 ORD.out.2.1 ORD.out.2.2.1 ORD.out.2.2.2 L2.out.2.2 ⟨half_same (by have := LN.out; omega) ORD.out.1.right ORD.out.2.1.right, StbF.refl _⟩ (by rw [L2.out.1]; simp only [List.append_assoc])
                      go_wp2_with fail
                      go_end0
                      exact ⟨rfl, d, by omega, L3.out, S1.out⟩)
        · have hry : ¬ (p : Int) < (m : Int) := by omega
          by_cases hs1 : a < p ∧ p < mid
          · have hs1y : (a : Int) < (p : Int) := by omega
            have hs1z : (p : Int) < (mid : Int) := by omega
            by_cases hsb : mid < e ∧ e < b
            · have hsby : (mid : Int) < (e : Int) := by omega
              have hsbz : (e : Int) < (b : Int) := by omega
              first
                | (exfalso; omega)
                | (
                  have L1 : Aside (d.toList = A ++ X1 ++ Y1 ++ X2 ++ Y2 ++ B) := L0.out.trans (cross_same (by have := LN.out; omega))
                  have hcall := HIH.out a p mid d A X1 Y1 (X2 ++ Y2 ++ B) _ (by omega) (by omega) S1.out hs1.1 hs1.2 (by omega) ⟨by rw [L1.out]; simp only [List.append_assoc], LN.out.2.2.2.2, by have := LN.out; omega, by have := LN.out; omega, ORD.out.1.left, ORD.out.2.1.left⟩
                  clear S1
                  go_wp2_with fail
                  refine hcall.mono ?_
                  rintro r w2 ⟨rfl, d2, hz2, ⟨Z1, hl2, hZ1, hst1⟩, S3'⟩
                  have S3 : Aside (SWK encF k w0 blk off d2 w2) := S3'
                  have hzl := half_len L1.out hl2 (by omega)
                  have L2 : Aside (d2.toList = A ++ Z1 ++ X2 ++ Y2 ++ B ∧ Z1.length = X1.length + Y1.length ∧ Srt Z1 ∧ StbF (X1 ++ Y1) Z1) := ⟨by rw [hl2]; simp only [List.append_assoc], hzl, hZ1, hst1⟩
                  clear hcall hl2 hZ1 hst1 S3' hzl
                  have hzd : d2.size = d.size := by omega
                  have hcall := HIH.out mid e b d2 (A ++ Z1) X2 Y2 B _ (by omega) (by omega) S3.out hsb.1 hsb.2 (by omega) ⟨L2.out.1, by have := LN.out; have := L2.out.2.1; rw [List.length_append]; omega, by have := LN.out; omega, by have := LN.out; omega, ORD.out.1.right, ORD.out.2.1.right⟩
                  rw [hzd] at hcall
                  clear S3
                  go_wp2_with fail
                  refine hcall.mono ?_
                  rintro r w3 ⟨rfl, d3, hz3, ⟨Z2, hl3, hZ2, hst2⟩, S4'⟩
                  have S4 : Aside (SWK encF k w0 blk off d3 w3) := S4'
                  have L3 : Aside (SyE A (X1 ++ X2) (Y1 ++ Y2) B d3) := sym_end ORD.out.1 ORD.out.2.1 ORD.out.2.2.1 ORD.out.2.2.2 L2.out.2.2 ⟨hZ2, hst2⟩ hl3
                  clear hcall hl3 hZ2 hst2 S4'
                  go_wp2_with fail
                  go_end0
                  exact ⟨rfl, d3, by omega, L3.out, S4.out⟩)
            · by_cases hsbw : mid < e
              · have hsby : (mid : Int) < (e : Int) := by omega
                have hsbz : ¬ (e : Int) < (b : Int) := by omega
                first
                  | (exfalso; omega)
                  | (
                    have L1 : Aside (d.toList = A ++ X1 ++ Y1 ++ X2 ++ Y2 ++ B) := L0.out.trans (cross_same (by have := LN.out; omega))
                    have hcall := HIH.out a p mid d A X1 Y1 (X2 ++ Y2 ++ B) _ (by omega) (by omega) S1.out hs1.1 hs1.2 (by omega) ⟨by rw [L1.out]; simp only [List.append_assoc], LN.out.2.2.2.2, by have := LN.out; omega, by have := LN.out; omega, ORD.out.1.left, ORD.out.2.1.left⟩
                    clear S1
                    go_wp2_with fail
                    refine hcall.mono ?_
                    rintro r w2 ⟨rfl, d2, hz2, ⟨Z1, hl2, hZ1, hst1⟩, S3'⟩
                    have S3 : Aside (SWK encF k w0 blk off d2 w2) := S3'
                    have hzl := half_len L1.out hl2 (by omega)
                    have L2 : Aside (d2.toList = A ++ Z1 ++ X2 ++ Y2 ++ B ∧ Z1.length = X1.length + Y1.length ∧ Srt Z1 ∧ StbF (X1 ++ Y1) Z1) := ⟨by rw [hl2]; simp only [List.append_assoc], hzl, hZ1, hst1⟩
                    clear hcall hl2 hZ1 hst1 S3' hzl
                    have L3 : Aside (SyE A (X1 ++ X2) (Y1 ++ Y2) B d2) := sym_end ORD.out.1 ORD.out.2.1 ORD.out.2.2.1 ORD.out.2.2.2 L2.out.2.2 ⟨half_same (by have := LN.out; omega) ORD.out.1.right ORD.out.2.1.right, StbF.refl _⟩ (by rw [L2.out.1]; simp only [List.append_assoc])
                    go_wp2_with fail
                    go_end0
                    exact ⟨rfl, d2, by omega, L3.out, S3.out⟩)
              · have hsby : ¬ (mid : Int) < (e : Int) := by omega
                first
                  | (exfalso; omega)
                  | (
                    have L1 : Aside (d.toList = A ++ X1 ++ Y1 ++ X2 ++ Y2 ++ B) := L0.out.trans (cross_same (by have := LN.out; omega))
                    have hcall := HIH.out a p mid d A X1 Y1 (X2 ++ Y2 ++ B) _ (by omega) (by omega) S1.out hs1.1 hs1.2 (by omega) ⟨by rw [L1.out]; simp only [List.append_assoc], LN.out.2.2.2.2, by have := LN.out; omega, by have := LN.out; omega, ORD.out.1.left, ORD.out.2.1.left⟩
                    clear S1
                    go_wp2_with fail
                    refine hcall.mono ?_
                    rintro r w2 ⟨rfl, d2, hz2, ⟨Z1, hl2, hZ1, hst1⟩, S3'⟩
                    have S3 : Aside (SWK encF k w0 blk off d2 w2) := S3'
                    have hzl := half_len L1.out hl2 (by omega)
                    have L2 : Aside (d2.toList = A ++ Z1 ++ X2 ++ Y2 ++ B ∧ Z1.length = X1.length + Y1.length ∧ Srt Z1 ∧ StbF (X1 ++ Y1) Z1) := ⟨by rw [hl2]; simp only [List.append_assoc], hzl, hZ1, hst1⟩
                    clear hcall hl2 hZ1 hst1 S3' hzl
                    have L3 : Aside (SyE A (X1 ++ X2) (Y1 ++ Y2) B d2) := sym_end ORD.out.1 ORD.out.2.1 ORD.out.2.2.1 ORD.out.2.2.2 L2.out.2.2 ⟨half_same (by have := LN.out; omega) ORD.out.1.right ORD.out.2.1.right, StbF.refl _⟩ (by rw [L2.out.1]; simp only [List.append_assoc])
                    go_wp2_with fail
                    go_end0
                    exact ⟨rfl, d2, by omega, L3.out, S3.out⟩)
          · by_cases hs1w : a < p
            · have hs1y : (a : Int) < (p : Int) := by omega
              have hs1z : ¬ (p : Int) < (mid : Int) := by omega
              by_cases hsb : mid < e ∧ e < b
              · have hsby : (mid : Int) < (e : Int) := by omega
                have hsbz : (e : Int) < (b : Int) := by omega
                first
                  | (exfalso; omega)
                  | (
                    have L1 : Aside (d.toList = A ++ X1 ++ Y1 ++ X2 ++ Y2 ++ B) := L0.out.trans (cross_same (by have := LN.out; omega))
                    have L2 : Aside (d.toList = A ++ (X1 ++ Y1) ++ X2 ++ Y2 ++ B ∧ (X1 ++ Y1).length = X1.length + Y1.length ∧ Srt (X1 ++ Y1) ∧ StbF (X1 ++ Y1) (X1 ++ Y1)) := ⟨by rw [L1.out]; simp only [List.append_assoc], List.length_append, half_same (by have := LN.out; omega) ORD.out.1.left ORD.out.2.1.left, StbF.refl _⟩
                    have hzd : d.size = d.size := by omega
                    have hcall := HIH.out mid e b d (A ++ (X1 ++ Y1)) X2 Y2 B _ (by omega) (by omega) S1.out hsb.1 hsb.2 (by omega) ⟨L2.out.1, by have := LN.out; have := L2.out.2.1; rw [List.length_append]; omega, by have := LN.out; omega, by have := LN.out; omega, ORD.out.1.right, ORD.out.2.1.right⟩
                    clear S1
                    go_wp2_with fail
                    refine hcall.mono ?_
                    rintro r w3 ⟨rfl, d3, hz3, ⟨Z2, hl3, hZ2, hst2⟩, S4'⟩
                    have S4 : Aside (SWK encF k w0 blk off d3 w3) := S4'
                    have L3 : Aside (SyE A (X1 ++ X2) (Y1 ++ Y2) B d3) := sym_end ORD.out.1 ORD.out.2.1 ORD.out.2.2.1 ORD.out.2.2.2 L2.out.2.2 ⟨hZ2, hst2⟩ hl3
                    clear hcall hl3 hZ2 hst2 S4'
                    go_wp2_with fail
                    go_end0
                    exact ⟨rfl, d3, by omega, L3.out, S4.out⟩)
              · by_cases hsbw : mid < e
                · have hsby : (mid : Int) < (e : Int) := by omega
                  have hsbz : ¬ (e : Int) < (b : Int) := by omega
                  first
                    | (exfalso; omega)
                    | (
                      have L1 : Aside (d.toList = A ++ X1 ++ Y1 ++ X2 ++ Y2 ++ B) := L0.out.trans (cross_same (by have := LN.out; omega))
                      have L2 : Aside (d.toList = A ++ (X1 ++ Y1) ++ X2 ++ Y2 ++ B ∧ (X1 ++ Y1).length = X1.length + Y1.length ∧ Srt (X1 ++ Y1) ∧ StbF (X1 ++ Y1) (X1 ++ Y1)) := ⟨by rw [L1.out]; simp only [List.append_assoc], List.length_append, half_same (by have := LN.out; omega) ORD.out.1.left ORD.out.2.1.left, StbF.refl _⟩
                      have L3 : Aside (SyE A (X1 ++ X2) (Y1 ++ Y2) B d) := sym_end ORD.out.1 ORD.out.2.1 ORD.out.2.2.1 ORD.out.2.2.2 L2.out.2.2 ⟨half_same (by have := LN.out; omega) ORD.out.1.right ORD.out.2.1.right, StbF.refl _⟩ (by rw [L2.out.1]; simp only [List.append_assoc])
                      go_wp2_with fail
                      go_end0
                      exact ⟨rfl, d, by omega, L3.out, S1.out⟩)
                · have hsby : ¬ (mid : Int) < (e : Int) := by omega
                  first
                    | (exfalso; omega)
                    | (
                      have L1 : Aside (d.toList = A ++ X1 ++ Y1 ++ X2 ++ Y2 ++ B) := L0.out.trans (cross_same (by have := LN.out; omega))
                      have L2 : Aside (d.toList = A ++ (X1 ++ Y1) ++ X2 ++ Y2 ++ B ∧ (X1 ++ Y1).length = X1.length + Y1.length ∧ Srt (X1 ++ Y1) ∧ StbF (X1 ++ Y1) (X1 ++ Y1)) := ⟨by rw [L1.out]; simp only [List.append_assoc], List.length_append, half_same (by have := LN.out; omega) ORD.out.1.left ORD.out.2.1.left, StbF.refl _⟩
                      have L3 : Aside (SyE A (X1 ++ X2) (Y1 ++ Y2) B d) := sym_end ORD.out.1 ORD.out.2.1 ORD.out.2.2.1 ORD.out.2.2.2 L2.out.2.2 ⟨half_same (by have := LN.out; omega) ORD.out.1.right ORD.out.2.1.right, StbF.refl _⟩ (by rw [L2.out.1]; simp only [List.append_assoc])
                      go_wp2_with fail
                      go_end0
                      exact ⟨rfl, d, by omega, L3.out, S1.out⟩)
            · have hs1y : ¬ (a : Int) < (p : Int) := by omega
              by_cases hsb : mid < e ∧ e < b
              · have hsby : (mid : Int) < (e : Int) := by omega
                have hsbz : (e : Int) < (b : Int) := by omega
                first
                  | (exfalso; omega)
                  | (
                    have L1 : Aside (d.toList = A ++ X1 ++ Y1 ++ X2 ++ Y2 ++ B) := L0.out.trans (cross_same (by have := LN.out; omega))
                    have L2 : Aside (d.toList = A ++ (X1 ++ Y1) ++ X2 ++ Y2 ++ B ∧ (X1 ++ Y1).length = X1.length + Y1.length ∧ Srt (X1 ++ Y1) ∧ StbF (X1 ++ Y1) (X1 ++ Y1)) := ⟨by rw [L1.out]; simp only [List.append_assoc], List.length_append, half_same (by have := LN.out; omega) ORD.out.1.left ORD.out.2.1.left, StbF.refl _⟩
                    have hzd : d.size = d.size := by omega
                    have hcall := HIH.out mid e b d (A ++ (X1 ++ Y1)) X2 Y2 B _ (by omega) (by omega) S1.out hsb.1 hsb.2 (by omega) ⟨L2.out.1, by have := LN.out; have := L2.out.2.1; rw [List.length_append]; omega, by have := LN.out; omega, by have := LN.out; omega, ORD.out.1.right, ORD.out.2.1.right⟩
                    clear S1
                    go_wp2_with fail
                    refine hcall.mono ?_
                    rintro r w3 ⟨rfl, d3, hz3, ⟨Z2, hl3, hZ2, hst2⟩, S4'⟩
                    have S4 : Aside (SWK encF k w0 blk off d3 w3) := S4'
                    have L3 : Aside (SyE A (X1 ++ X2) (Y1 ++ Y2) B d3) := sym_end ORD.out.1 ORD.out.2.1 ORD.out.2.2.1 ORD.out.2.2.2 L2.out.2.2 ⟨hZ2, hst2⟩ hl3
                    clear hcall hl3 hZ2 hst2 S4'
                    go_wp2_with fail
                    go_end0
                    exact ⟨rfl, d3, by omega, L3.out, S4.out⟩)
              · by_cases hsbw : mid < e
                · have hsby : (mid : Int) < (e : Int) := by omega
                  have hsbz : ¬ (e : Int) < (b : Int) := by omega
                  first
                    | (exfalso; omega)
                    | (
                      have L1 : Aside (d.toList = A ++ X1 ++ Y1 ++ X2 ++ Y2 ++ B) := L0.out.trans (cross_same (by have := LN.out; omega))
                      have L2 : Aside (d.toList = A ++ (X1 ++ Y1) ++ X2 ++ Y2 ++ B ∧ (X1 ++ Y1).length = X1.length + Y1.length ∧ Srt (X1 ++ Y1) ∧ StbF (X1 ++ Y1) (X1 ++ Y1)) := ⟨by rw [L1.out]; simp only [List.append_assoc], List.length_append, half_same (by have := LN.out; omega) ORD.out.1.left ORD.out.2.1.left, StbF.refl _⟩
                      have L3 : Aside (SyE A (X1 ++ X2) (Y1 ++ Y2) B d) := sym_end ORD.out.1 ORD.out.2.1 ORD.out.2.2.1 ORD.out.2.2.2 L2.out.2.2 ⟨half_same (by have := LN.out; omega) ORD.out.1.right ORD.out.2.1.right, StbF.refl _⟩ (by rw [L2.out.1]; simp only [List.append_assoc])
                      go_wp2_with fail
                      go_end0
                      exact ⟨rfl, d, by omega, L3.out, S1.out⟩)
                · have hsby : ¬ (mid : Int) < (e : Int) := by omega
                  first
                    | (exfalso; omega)
                    | (
                      have L1 : Aside (d.toList = A ++ X1 ++ Y1 ++ X2 ++ Y2 ++ B) := L0.out.trans (cross_same (by have := LN.out; omega))
                      have L2 : Aside (d.toList = A ++ (X1 ++ Y1) ++ X2 ++ Y2 ++ B ∧ (X1 ++ Y1).length = X1.length + Y1.length ∧ Srt (X1 ++ Y1) ∧ StbF (X1 ++ Y1) (X1 ++ Y1)) := ⟨by rw [L1.out]; simp only [List.append_assoc], List.length_append, half_same (by have := LN.out; omega) ORD.out.1.left ORD.out.2.1.left, StbF.refl _⟩
                      have L3 : Aside (SyE A (X1 ++ X2) (Y1 ++ Y2) B d) := sym_end ORD.out.1 ORD.out.2.1 ORD.out.2.2.1 ORD.out.2.2.2 L2.out.2.2 ⟨half_same (by have := LN.out; omega) ORD.out.1.right ORD.out.2.1.right, StbF.refl _⟩ (by rw [L2.out.1]; simp only [List.append_assoc])
                      go_wp2_with fail
                      go_end0
                      exact ⟨rfl, d, by omega, L3.out, S1.out⟩)

end Go.Proofs.YtlijndkpgmbapaaGreatDoor
