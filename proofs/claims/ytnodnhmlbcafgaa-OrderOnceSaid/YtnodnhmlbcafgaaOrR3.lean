/- The reference of layer 7, walked: Place, After. -/
import Derived.Test.YtnodnhmlbcafgaaOrR2
import Derived.Deep.QuietTactic
import Derived.BigQuiet
namespace Go.Proofs.Ytnodnhmlbcafgaa
set_option maxRecDepth 100000
open Go.RowKit

theorem drewN_below2 (B : Nat) (w : World) (n : Nat) : Below B w (w.drewN n) := ⟨rfl, rfl, rfl, Nat.le_refl _, fun _ _ => rfl⟩
/-- two steps compared -/
def sameS (l : Int) (f : Bool) (l' : Int) (f' : Bool) : Bool := l == l' && f == f'
theorem run_equalIn_bool (n : Nat) (f f' : Bool) (w : World) : Sem.run Try.prog (Op.equalIn (n + 1) 4 (.bool f) (.bool f')) w = .ok (f == f') w := by
  simp [Op.equalIn, run_underlying Try.underlying4]
theorem eql_step (l l' : Int) (f f' : Bool) (w : World) : Sem.run Try.prog (binOp .eql 23 (.agg #[.int .i64 l, .bool f]) (.agg #[.int .i64 l', .bool f'])) w = .ok (.bool (sameS l f l' f')) w := by
  rw [run_eql_struct, run_equalIn_agg _ _ _ _ _ (by kernel_rfl) (by kernel_rfl)]
  simp only [Program.fieldsOf, Try.underlying23]
  simp [Op.eqFields, part, isAgg, run_underlying Try.underlying3, run_underlying Try.underlying4, run_equalIn_int _ _ _ _ _ _ _ Try.underlying3, run_equalIn_bool, sameS]
  by_cases h1 : l = l' <;> cases f <;> cases f' <;> simp [h1]
theorem sameS_iff (l l' : Int) (f f' : Bool) : sameS l f l' f' = true ↔ l = l' ∧ f = f' := by simp [sameS]

theorem ror_place_yes (m j : Nat) (f : Bool) (w : World) (hl : LinesOk m) (hj : j < m) :
    Calls Try.prog 12 #[.int .i64 m, .agg (sv j f)] w fun e w' => e = .returned (.tuple #[.int .i64 (placeC m j f : Nat), .int .i64 0]) ∧ Below w.heap.size w w' := by
  have hm1 : 1 ≤ m := by unfold LinesOk at hl; omega
  have hm64 : m ≤ 64 := by unfold LinesOk at hl; omega
  have HL := Lib.hid hl
  have hlen := refL_length m hm1
  obtain ⟨p, hp⟩ : ∃ p, placeC m j f = p := ⟨_, rfl⟩
  have hsp := step_place f hj
  rw [hp] at hsp ⊢
  have HP := Lib.hid hp
  have HSP := Lib.hid hsp.1
  have hp2 := hsp.2
  have HS : Hid (∀ i, i < 2 * m → (refL m).getD i (0, false) = stepC m i) := fun i hi => refL_at hm1 hm64 hi
  clear hl hp hsp
  go_enter Try.func12, Try.ntmps12
  go_wp2_with fail
  refine (ror_steps (m : Int) _).mono ?_
  rintro e w1 ⟨⟨v, rfl, hv, _⟩, hb1⟩
  have hv := hv HL.out
  rw [Int.toNat_natCast] at hv
  obtain ⟨g, cap, rfl, hcap, hcs⟩ := hv.at (by omega)
  rw [hlen] at hcap hcs ⊢
  have HCS := Lib.hid hcs
  have HB : Hid (Below w.heap.size w w1) := ((Below.refl _ _).alloc (Nat.le_refl _) _).trans (hb1.mono (by simp))
  have HK := Lib.hid ((Blk.new w (sv j f) 23).after hb1)
  clear hb1 hv hcs
  go_wp2_with fail
  go_loopw [7] (fun i wr => ∃ k : Nat, k ≤ p ∧ i = .int .i64 k ∧ Below w1.heap.size w1 wr) (fun i _ => p + 1 - (intOf i).toNat)
  case atStart => exact ⟨0, Nat.zero_le _, rfl, Below.refl _ _⟩
  case round =>
    obtain ⟨k, hk, rfl, hbr⟩ := hrel
    have ha : wr.cell? ⟨w.heap.size, 0, none⟩ = some (.int .i64 (j : Nat)) := (HK.out.after hbr).cell 0
    have hb : wr.cell? ⟨w.heap.size, 1, none⟩ = some (.bool f) := (HK.out.after hbr).cell 1
    have hk2 : (k : Int) < 2 * (m : Int) := by omega
    obtain ⟨h1, h2⟩ := HCS.out k (by omega)
    rw [HS.out k (by omega)] at h1 h2
    obtain ⟨⟨sl, sf⟩, hs⟩ : ∃ s, stepC m k = s := ⟨_, rfl⟩
    rw [hs] at h1 h2
    have hc1 := (hbr.cell (p := ⟨g, k * 2, none⟩) (cell_lt h1)).trans h1
    have hc2 := (hbr.cell (p := ⟨g, k * 2 + 1, none⟩) (cell_lt h2)).trans h2
    have heq := fun w => eql_step (sl : Nat) (j : Nat) sf f w
    have HBR : Hid (Below w.heap.size w wr) := HB.out.trans (hbr.mono HB.out.size)
    have HB1 := Lib.hid hbr
    have hps := place_step (n := m) (k := k) (by omega)
    rw [hs] at hps
    by_cases hkp : k = p
    · have hse : sameS (sl : Nat) sf (j : Nat) f = true := by
        have h := HSP.out
        rw [← hkp, hs] at h
        injection h with h3 h4
        rw [sameS_iff]
        exact ⟨by rw [h3], h4⟩
      subst hkp
      clear h1 h2 hbr hs hps
      rw [hse] at heq
      go_wp2_with fail
      go_quiet (fail)
      go_wp2_with fail
      go_ret2
      exact ⟨rfl, HBR.out.trans (drewN_below2 _ _ _)⟩
    · have hse : sameS (sl : Nat) sf (j : Nat) f = false := by
        rw [Bool.eq_false_iff]
        intro h
        rw [sameS_iff] at h
        have h3 : sl = j := by omega
        rw [h3, h.2] at hps
        exact hkp (hps.1.symm.trans HP.out)
      clear h1 h2 hbr hs hps
      rw [hse] at heq
      go_wp2_with fail
      go_quiet (fail)
      go_wp2_with fail
      go_roundw
      case rel => exact ⟨k + 1, by omega, by go_num, HB1.out.trans (drewN_below2 _ _ _)⟩
      case measure => simp [intOf]; omega

theorem ror_place_no (n l : Int) (f : Bool) (w : World) (h : ¬ IsLine n l) :
    Calls Try.prog 12 #[.int .i64 n, .agg (sv l f)] w fun e w' => e = .returned (.tuple #[.int .i64 0, .int .i64 1]) ∧ Below w.heap.size w w' := by
  by_cases hl : LinesOk n
  · obtain ⟨m, rfl⟩ : ∃ m : Nat, n = m := ⟨n.toNat, by unfold LinesOk at hl; omega⟩
    have hm1 : 1 ≤ m := by unfold LinesOk at hl; omega
    have hm64 : m ≤ 64 := by unfold LinesOk at hl; omega
    have hno : ∀ j : Nat, j < m → l ≠ (j : Nat) := fun j hj e => h ⟨hl, by omega, by omega⟩
    have HNO := Lib.hid hno
    have HL := Lib.hid hl
    have hlen := refL_length m hm1
    have HS : Hid (∀ i, i < 2 * m → (refL m).getD i (0, false) = stepC m i) := fun i hi => refL_at hm1 hm64 hi
    clear hl hno h
    go_enter Try.func12, Try.ntmps12
    go_wp2_with fail
    refine (ror_steps (m : Int) _).mono ?_
    rintro e w1 ⟨⟨v, rfl, hv, _⟩, hb1⟩
    have hv := hv HL.out
    rw [Int.toNat_natCast] at hv
    obtain ⟨g, cap, rfl, hcap, hcs⟩ := hv.at (by omega)
    rw [hlen] at hcap hcs ⊢
    have HCS := Lib.hid hcs
    have HB : Hid (Below w.heap.size w w1) := ((Below.refl _ _).alloc (Nat.le_refl _) _).trans (hb1.mono (by simp))
    have HK := Lib.hid ((Blk.new w (sv l f) 23).after hb1)
    clear hb1 hv hcs
    go_wp2_with fail
    go_loopw [7] (fun i wr => ∃ k : Nat, k ≤ 2 * m ∧ i = .int .i64 k ∧ Below w1.heap.size w1 wr) (fun i _ => 2 * m + 1 - (intOf i).toNat)
    case atStart => exact ⟨0, Nat.zero_le _, rfl, Below.refl _ _⟩
    case round =>
      obtain ⟨k, hk, rfl, hbr⟩ := hrel
      have ha : wr.cell? ⟨w.heap.size, 0, none⟩ = some (.int .i64 l) := (HK.out.after hbr).cell 0
      have hb : wr.cell? ⟨w.heap.size, 1, none⟩ = some (.bool f) := (HK.out.after hbr).cell 1
      have HBR : Hid (Below w.heap.size w wr) := HB.out.trans (hbr.mono HB.out.size)
      have HB1 := Lib.hid hbr
      by_cases hlt : k < 2 * m
      · have hk2 : (k : Int) < 2 * (m : Int) := by omega
        obtain ⟨h1, h2⟩ := HCS.out k hlt
        rw [HS.out k hlt] at h1 h2
        obtain ⟨⟨sl, sf⟩, hs⟩ : ∃ s, stepC m k = s := ⟨_, rfl⟩
        rw [hs] at h1 h2
        have hc1 := (hbr.cell (p := ⟨g, k * 2, none⟩) (cell_lt h1)).trans h1
        have hc2 := (hbr.cell (p := ⟨g, k * 2 + 1, none⟩) (cell_lt h2)).trans h2
        have heq := fun w => eql_step (sl : Nat) l sf f w
        have hps := (place_step (n := m) (k := k) hlt).2
        rw [hs] at hps
        have hse : sameS (sl : Nat) sf l f = false := by
          rw [Bool.eq_false_iff]
          intro h
          rw [sameS_iff] at h
          exact HNO.out sl hps h.1.symm
        clear h1 h2 hbr hs hps
        rw [hse] at heq
        go_wp2_with fail
        go_quiet (fail)
        go_wp2_with fail
        go_roundw
        case rel => exact ⟨k + 1, by omega, by go_num, HB1.out.trans (drewN_below2 _ _ _)⟩
        case measure => simp [intOf]; omega
      · obtain rfl : k = 2 * m := by omega
        clear hbr
        go_wp2_with fail
        go_ret2
        exact ⟨rfl, HBR.out⟩
  · have HN := Lib.hid hl
    clear hl h
    go_enter Try.func12, Try.ntmps12
    go_wp2_with fail
    refine (ror_steps n _).mono ?_
    rintro e w1 ⟨⟨v, rfl, _, hv⟩, hb1⟩
    obtain rfl := hv HN.out
    have HB : Hid (Below w.heap.size w w1) := ((Below.refl _ _).alloc (Nat.le_refl _) _).trans (hb1.mono (by simp))
    clear hb1 hv
    go_wp2_with fail
    go_loopw [7] (fun i wr => i = .int .i64 0 ∧ Below w.heap.size w wr) (fun _ _ => 0)
    case atStart => exact ⟨rfl, HB.out⟩
    case round =>
      obtain ⟨rfl, hbr⟩ := hrel
      have HBR := Lib.hid hbr
      clear hbr
      go_wp2_with fail
      go_ret2
      exact ⟨rfl, HBR.out⟩
theorem ror_place (n l : Int) (f : Bool) (w : World) : Calls Try.prog 12 #[.int .i64 n, .agg (sv l f)] w (PlaceT n l f w) := by
  unfold PlaceT plN plC
  by_cases h : IsLine n l
  · rw [if_pos h, if_pos h]
    obtain ⟨hl, h0, h1⟩ := h
    obtain ⟨m, rfl⟩ : ∃ m : Nat, n = m := ⟨n.toNat, by unfold LinesOk at hl; omega⟩
    obtain ⟨j, rfl⟩ : ∃ j : Nat, l = j := ⟨l.toNat, by omega⟩
    exact ror_place_yes m j f w hl (by omega)
  · rw [if_neg h, if_neg h]
    exact ror_place_no n l f w h

end Go.Proofs.Ytnodnhmlbcafgaa
