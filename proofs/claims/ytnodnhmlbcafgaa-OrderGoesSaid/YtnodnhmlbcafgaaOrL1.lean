/- Layer 7: works. -/
import Derived.Test.YtnodnhmlbcafgaaOrC1
import Derived.Deep.QuietTactic
import Derived.BigQuiet
namespace Go.Proofs.Ytnodnhmlbcafgaa
set_option maxRecDepth 100000
open Go.RowKit

theorem neq_step (l l' : Int) (f f' : Bool) (w : World) : Sem.run Try.prog (binOp .neq 23 (.agg #[.int .i64 l, .bool f]) (.agg #[.int .i64 l', .bool f'])) w = .ok (.bool (!sameS l f l' f')) w := by
  rw [run_neq_struct, run_equalIn_agg _ _ _ _ _ (by kernel_rfl) (by kernel_rfl)]
  simp only [Program.fieldsOf, Try.underlying23]
  simp [Op.eqFields, part, isAgg, run_underlying Try.underlying3, run_underlying Try.underlying4, run_equalIn_int _ _ _ _ _ _ _ Try.underlying3, run_equalIn_bool, sameS]
  by_cases h1 : l = l' <;> cases f <;> cases f' <;> simp [h1]
theorem sameS_self (l : Int) (f : Bool) : sameS l f l f = true := by rw [sameS_iff]; exact ⟨rfl, rfl⟩
theorem st_yes {m k : Nat} (hm : LinesOk m) (hk : k < 2 * m) : stL m k = ((stepC m k).1 : Nat) ∧ stF m k = (stepC m k).2 ∧ stC m k = 0 := by
  have h : IsStep (m : Int) (k : Int) := ⟨hm, by omega, by omega⟩
  unfold stL stF stC
  rw [if_pos h, if_pos h, if_pos h, Int.toNat_natCast, Int.toNat_natCast]
  exact ⟨rfl, rfl, rfl⟩
theorem pl_yes {m l : Nat} (f : Bool) (hm : LinesOk m) (hl : l < m) : plN m l f = (placeC m l f : Nat) ∧ plC m l = 0 := by
  have h : IsLine (m : Int) (l : Int) := ⟨hm, by omega, by omega⟩
  unfold plN plC
  rw [if_pos h, if_pos h, Int.toNat_natCast, Int.toNat_natCast]
  exact ⟨rfl, rfl⟩
theorem af_yes {m k l : Nat} (hm : LinesOk m) (hk : k ≤ 2 * m) (hl : l < m) : afN m k l = (afterC m k l : Nat) ∧ afC m k l = 0 := by
  have h : IsAfter (m : Int) (k : Int) (l : Int) := ⟨hm, by omega, by omega, by omega, by omega⟩
  unfold afN afC
  rw [if_pos h, if_pos h, Int.toNat_natCast, Int.toNat_natCast, Int.toNat_natCast]
  exact ⟨rfl, rfl⟩
/-- the example's steps -/
def lits : Array Value := #[.int .i64 0, .bool false, .int .i64 1, .bool false, .int .i64 0, .bool true, .int .i64 2, .bool false, .int .i64 1, .bool true, .int .i64 2, .bool true]
theorem lits_at (k : Nat) (h : k < 6) : lits[k * 2]? = some (.int .i64 ((stepC 3 k).1 : Nat)) ∧ lits[k * 2 + 1]? = some (.bool (stepC 3 k).2) := by
  rcases (by omega : k = 0 ∨ k = 1 ∨ k = 2 ∨ k = 3 ∨ k = 4 ∨ k = 5) with rfl | rfl | rfl | rfl | rfl | rfl <;> exact ⟨rfl, rfl⟩

set_option maxHeartbeats 2000000 in
theorem orworks_any (w : World) : Calls Try.prog 16 #[] w fun e w' => e = .returned (.bool true) ∧ Below w.heap.size w w' := by
  have h3 : LinesOk ((3 : Nat) : Int) := by decide
  have HA : Hid (afN 3 3 1 = (afterC 3 3 1 : Nat) ∧ afC 3 3 1 = 0) := af_yes (m := 3) (k := 3) (l := 1) h3 (by decide) (by decide)
  have HAC : Hid (afterC 3 3 1 = 1) := by show afterC 3 3 1 = 1; decide
  have HN := Lib.hid (Blk.new w lits 23)
  clear h3
  go_enter Try.func16, Try.ntmps16
  go_wp2_with fail
  go_loopw [18] (fun i wr => ∃ k : Nat, k ≤ 6 ∧ i = .int .i64 k ∧ Blk wr w.heap.size lits 23 ∧ Below w.heap.size w wr) (fun i _ => 6 - (intOf i).toNat)
  case atStart => exact ⟨0, Nat.zero_le _, rfl, HN.out, (Below.refl _ _).alloc (Nat.le_refl _) _⟩
  case round =>
    obtain ⟨k, hk, rfl, hblk, hb⟩ := hrel
    have HB := Lib.hid hb
    have HK := Lib.hid hblk
    by_cases hlt : k < 6
    · have hs : stL 3 (k : Int) = ((stepC 3 k).1 : Nat) ∧ stF 3 (k : Int) = (stepC 3 k).2 ∧ stC 3 (k : Int) = 0 := st_yes (m := 3) (k := k) (by decide) (by omega)
      have hpl := place_step (n := 3) (k := k) (by omega)
      have hp : plN 3 ((stepC 3 k).1 : Nat) (stepC 3 k).2 = (placeC 3 (stepC 3 k).1 (stepC 3 k).2 : Nat) ∧ plC 3 ((stepC 3 k).1 : Nat) = 0 := pl_yes (m := 3) (l := (stepC 3 k).1) (stepC 3 k).2 (by decide) hpl.2
      rw [hpl.1] at hp
      obtain ⟨h1, h2⟩ := lits_at k hlt
      obtain ⟨⟨sl, sf⟩, hse⟩ : ∃ s, stepC 3 k = s := ⟨_, rfl⟩
      rw [hse] at hs hp h1 h2
      have HS := Lib.hid hs
      have HP := Lib.hid hp
      have h1' := h1
      have h2' := h2
      clear hs hp hpl hse h1 h2 hb hblk
      go_wp2_with fail
      refine (or_at 3 (k : Int) _).mono ?_
      rintro e w2 ⟨rfl, hb2⟩
      rw [HS.out.1, HS.out.2.1, HS.out.2.2]
      have HB2 : Hid (Below w.heap.size w w2) := HB.out.trans (hb2.mono HB.out.size)
      have HK2 := Lib.hid (HK.out.after hb2)
      have hlt2 := HK2.out.lt
      have hne : w2.heap.size ≠ w.heap.size := by omega
      obtain ⟨W3, hW3⟩ : ∃ W3, (w2.alloc (.cells #[.int .i64 0, .bool false] 23)).setRow w2.heap.size (sv sl sf) = W3 := ⟨_, rfl⟩
      have HK3 : Hid (Blk W3 w.heap.size lits 23) := by
        show Blk W3 w.heap.size lits 23
        rw [← hW3]
        exact (HK2.out.alloc _).put_other hne _
      have HK4 : Hid (Blk W3 w2.heap.size (sv sl sf) 23) := by
        show Blk W3 w2.heap.size (sv sl sf) 23
        rw [← hW3]
        exact (Blk.new w2 (sv 0 false) 23).put _
      have HB3 : Hid (Below w.heap.size w W3) := by
        show Below w.heap.size w W3
        rw [← hW3]
        exact below_put HB2.out.size _ (HB2.out.alloc HB2.out.size _)
      have hc12 := fun W (h : Blk W w.heap.size lits 23) => (⟨(h.cell (k * 2)).trans h1', (h.cell (k * 2 + 1)).trans h2'⟩ : W.cell? ⟨w.heap.size, k * 2, none⟩ = some (.int .i64 (sl : Nat)) ∧ W.cell? ⟨w.heap.size, k * 2 + 1, none⟩ = some (.bool sf))
      have HC := Lib.hid hc12
      obtain ⟨hd1, hd2⟩ := hc12 W3 HK3.out
      clear hb2 hlt2 hne hc12
      go_wp2_with (refine wpList_store_row rfl 23 (.tmp 3) (.tmp 24) rfl w2.heap.size (sv sl sf) rfl rfl 23 (sv 0 false) (Blk.new w2 (sv 0 false) 23) size_step rfl (sv_one _ _) ?_; try rw [show (w2.alloc (.cells (sv 0 false) 23)).setRow w2.heap.size (sv sl sf) = W3 from hW3])
      refine (or_place 3 (sl : Nat) sf _).mono ?_
      rintro e w4 ⟨rfl, hb4⟩
      rw [HP.out.1, HP.out.2]
      have HKA := Lib.hid (HK3.out.after hb4)
      have hb4' : Below w.heap.size w w4 := HB3.out.trans (hb4.mono HB3.out.size)
      have HB4 := Lib.hid hb4'
      obtain ⟨he1, he2⟩ := HC.out w4 HKA.out
      have hf1 : w4.cell? ⟨w2.heap.size, 0, none⟩ = some (.int .i64 (sl : Nat)) := (HK4.out.after hb4).cell 0
      have hf2 : w4.cell? ⟨w2.heap.size, 1, none⟩ = some (.bool sf) := (HK4.out.after hb4).cell 1
      have hnq : ∀ w, Sem.run Try.prog (binOp .neq 23 (.agg #[.int .i64 (sl : Nat), .bool sf]) (.agg #[.int .i64 (sl : Nat), .bool sf])) w = .ok (.bool false) w := fun w => by
        rw [neq_step, sameS_self]; rfl
      clear hW3 hd1 hd2 hb4 hb4'
      go_wp2_with fail
      go_quiet (fail)
      go_wp2_with fail
      go_roundw
      case rel => exact ⟨k + 1, by omega, by go_num, HKA.out.drewN, HB4.out.trans (drewN_below2 _ _ _)⟩
      case measure => simp [intOf]; omega
    · obtain rfl : k = 6 := by omega
      clear hb hblk
      go_wp2_with fail
      refine (or_after 3 3 1 _).mono ?_
      rintro e w2 ⟨rfl, hb2⟩
      rw [HA.out.1, HA.out.2, HAC.out]
      have HB2 : Hid (Below w.heap.size w w2) := HB.out.trans (hb2.mono HB.out.size)
      clear hb2
      go_wp2_with fail
      go_ret
      exact ⟨rfl, HB2.out⟩

end Go.Proofs.Ytnodnhmlbcafgaa
