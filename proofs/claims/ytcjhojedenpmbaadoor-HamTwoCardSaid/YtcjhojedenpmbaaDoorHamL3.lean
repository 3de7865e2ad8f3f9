/- The walk of the law HamTwo. -/
import Derived.Test.YtcjhojedenpmbaaDoorHamL2
import Derived.ShutString
import Derived.OpenShut
import Derived.Lib.SmallJoins
namespace Go.Proofs.YtcjhojedenpmbaaDoor
open Go.RowKit

/-- a call that turns this bit of this text -/
def FlipAt (t : ByteArray) (k : Int) (u : ByteArray) : Prop := ∀ w, Calls Tryd.prog 15 #[.string t, .int .i64 k] w fun e w' => e = .returned (.string u) ∧ Below w.heap.size w w'
/-- a call that tells this text as bad, if it is not that one -/
def BadAt (t u : ByteArray) : Prop := u ≠ t → ∀ w, TabAt w → Calls Tryd.prog 12 #[.string u] w fun e w' => e = .returned (.tuple #[.string ByteArray.empty, .int .i64 4, .int .i64 0]) ∧ Below w.heap.size w w'
/-- what is below a block that the walk has laid stays -/
def After (b : Nat) (W0 : World) (w4 : World) : Prop := Below b W0 w4

set_option maxHeartbeats 2000000 in
set_option maxRecDepth 100000 in
theorem walk_HamTwo (s : ByteArray) (k k' : Int) (hs : s.size ≤ 140737488351232) (hk : (Lit.int .i64 k).wf = true) (hk' : (Lit.int .i64 k').wf = true) (w : World) (hT : TabAt w) (hg : 0 < w.heap.size) :
    Calls Tryd.prog 7 #[.string s, .agg #[.int .i64 k, .int .i64 k']] w fun e w' => e = .returned (.bool true) ∧ Below w.heap.size w w' := by
  have HT := Lib.hid hT
  have HK := Lib.hid hk
  have HK' := Lib.hid hk'
  clear hT hk hk'
  have hlt := spot_lt k
  have hlt' := spot_lt k'
  obtain ⟨q, hq⟩ : ∃ q, spot k / 8 = q := ⟨_, rfl⟩
  obtain ⟨r, hr⟩ : ∃ r, spot k % 8 = r := ⟨_, rfl⟩
  obtain ⟨q', hq'⟩ : ∃ q, spot k' / 8 = q := ⟨_, rfl⟩
  obtain ⟨r', hr'⟩ : ∃ r, spot k' % 8 = r := ⟨_, rfl⟩
  have hq9 : q < 9 := by omega
  have hr8 : r < 8 := by omega
  have hq9' : q' < 9 := by omega
  have hr8' : r' < 8 := by omega
  have HQ := Lib.hid hq
  have HR := Lib.hid hr
  have HQ' := Lib.hid hq'
  have HR' := Lib.hid hr'
  clear hlt hq hr hlt' hq' hr'
  obtain ⟨W0, hW0⟩ : ∃ W0, w.alloc (.cells #[.int .i64 k, .int .i64 k'] 32) = W0 := ⟨_, rfl⟩
  have hb0 : Below w.heap.size w W0 := by rw [← hW0]; exact (Below.refl _ _).alloc (Nat.le_refl _) _
  have hz0 : w.heap.size < W0.heap.size := by rw [← hW0]; simp
  have hc0 : W0.cell? ⟨w.heap.size, 0, none⟩ = some (.int .i64 k) := by rw [← hW0, World.cell?_alloc_new]; rfl
  have hc1 : W0.cell? ⟨w.heap.size, 1, none⟩ = some (.int .i64 k') := by rw [← hW0, World.cell?_alloc_new]; rfl
  have HC0 := Lib.hid hc0
  have HC1 := Lib.hid hc1
  have HW0 := Lib.hid hW0
  have HB0 := Lib.hid hb0
  have HT0 := Lib.hid (HT.out.below hb0 hg)
  have hg0 : 0 < W0.heap.size := Nat.lt_trans hg hz0
  clear hc0 hc1 hb0 hW0 HT
  go_enter Tryd.func7, Tryd.ntmps7
  go_wp2_with fail
  rw [HW0.out]
  refine (works_any _ HT0.out hg0).mono ?_
  rintro e w1 ⟨rfl, hb1⟩
  have HB1 := Lib.hid hb1
  clear hb1 HW0
  go_wp2_with fail
  refine (eight_any s _ hs).mono ?_
  rintro e w' ⟨rfl, rfl⟩
  obtain ⟨e8, h8⟩ : ∃ e8, eightS s = e8 := ⟨_, rfl⟩
  have hz8 : e8.size = 8 := by rw [← h8, eightS_size]
  rw [h8]
  clear h8
  go_wp2_with fail
  refine (enc_yes e8 _ hz8 (HT0.out.below HB1.out hg0)).mono ?_
  rintro e w2 ⟨rfl, hb2⟩
  have HB2 := Lib.hid (HB1.out.trans (hb2.mono HB1.out.size))
  clear hb2 HB1
  have hz9 : (encS e8).size = 9 := by rw [encS_size, hz8]
  have hz1 : (flipS (encS e8) q r).size = 9 := by rw [flipS_size _ _ _ (by omega), hz9]
  have HBd := Lib.hid HB2.out.drew
  have hk0 : w2.drew.cell? ⟨w.heap.size, 0, none⟩ = some (.int .i64 k) := (HB2.out.cell (p := ⟨w.heap.size, 0, none⟩) hz0).trans HC0.out
  have hk1 : w2.drew.cell? ⟨w.heap.size, 1, none⟩ = some (.int .i64 k') := (HB2.out.cell (p := ⟨w.heap.size, 1, none⟩) hz0).trans HC1.out
  have HD : BadAt (encS e8) (flipS (flipS (encS e8) q r) q' r') := fun hne w4 hT => dec_two_any e8 q r q' r' w4 hz8 hq9 hr8 hq9' hr8' hne hT
  have HF1 : FlipAt (encS e8) k (flipS (encS e8) (spot k / 8) (spot k % 8)) := fun w => flipped_any (encS e8) k w hz9 HK.out
  have HF2 : FlipAt (flipS (encS e8) q r) k' (flipS (flipS (encS e8) q r) (spot k' / 8) (spot k' % 8)) := fun w => flipped_any (flipS (encS e8) q r) k' w hz1 HK'.out
  obtain ⟨t, ht⟩ : ∃ t, encS e8 = t := ⟨_, rfl⟩
  obtain ⟨t1, ht1⟩ : ∃ t1, flipS t q r = t1 := ⟨_, rfl⟩
  obtain ⟨u, hu⟩ : ∃ u, flipS t1 q' r' = u := ⟨_, rfl⟩
  rw [HQ.out, HR.out] at HF1
  rw [HQ'.out, HR'.out] at HF2
  rw [ht] at HD HF1 HF2 hz9 hz1 ⊢
  rw [ht1] at HD HF1 HF2 hz1
  rw [hu] at HD HF2
  clear ht ht1 hu HQ HR HQ' HR' HK HK' HC0 HB2
  go_wp2_with fail
  go_region_with (first | (go_at_call_of 15 (Value.string t); refine (HF1 w2.drew).mono ?_; rintro e w3 ⟨rfl, hb3⟩; have HB3 := Lib.hid (HBd.out.trans (hb3.mono HBd.out.size)); have hk2 := (HB3.out.cell (p := ⟨w.heap.size, 1, none⟩) hz0).trans HC1.out; clear hb3) | (go_at_call_of 15 (Value.string t1); refine (HF2 _).mono ?_; rintro e w4 ⟨rfl, hb4⟩; have HB4 := Lib.hid (HB3.out.trans (hb4.mono HB3.out.size)); clear hb4))
  all_goals
    by_cases hne : u = t
    · have he : (u.toList == t.toList) = true := by rw [hne]; simp
      clear HD HF1 HF2 hk0 hk1 hne
      go_wp2_with fail
      go_ret
      exact ⟨rfl, HB0.out.trans (HB4.out.mono HB0.out.size)⟩
    · have he : (u.toList == t.toList) = false := by
        rw [← Bool.not_eq_true, beq_iff_eq]
        intro h
        apply hne
        rw [ByteArray.toList_eq, ByteArray.toList_eq] at h
        exact bytes_ext h
      have HNe := Lib.hid hne
      clear HF1 HF2 hk0 hk1 hne
      go_wp2_with fail
      refine (HD HNe.out _ (HT0.out.below HB4.out hg0)).mono ?_
      rintro e w5 ⟨rfl, hb5⟩
      have HB5 : Hid (Below w.heap.size w w5) := HB0.out.trans ((HB4.out.trans (hb5.mono HB4.out.size)).mono HB0.out.size)
      clear hb5 HD
      go_wp2_with fail
      go_ret
      exact ⟨rfl, HB5.out⟩

section
variable {H : Type} {enc : TypeId × Value → H} {P : Program}
/-- a parameter of two numbers -/
theorem open_ints2 {w : World} {r : Reach} {b0 base : Nat} {sp : Nat → Bool} {held : Bool} {t e : TypeId} {v : Value} {d : DataW H} {ps : List MemPlace} (ht : P.underlying t = some (.array 2 e)) (he : P.underlying e = some (.int .i64)) (hc : P.cellsOf e = 1) (hC : P.cellsOf t = 2)
    (hval : Value.okWide P w r b0 t v) (hd : DataW.Trod enc P w base sp held t v d ps) :
    ∃ a b : Int, v = .agg #[.int .i64 a, .int .i64 b] ∧ d = .agg [.lit (.int .i64 a), .lit (.int .i64 b)] ∧ ps = [] ∧ (Lit.int .i64 a).wf = true ∧ (Lit.int .i64 b).wf = true := by
  obtain ⟨cs, rfl, hsz, _⟩ : ∃ cs, v = .agg cs ∧ cs.size = P.cellsOf t ∧ Row.okWide P w r b0 t cs := by
    simpa [Value.okWide, ht] using hval
  obtain ⟨v0, v1, rfl⟩ := Joins.array2 (hsz.trans hC)
  obtain ⟨fuel, hf⟩ := hd
  obtain ⟨xs, m, _, ex, _, hl, hel⟩ := DataW.trod_array ht hf
  match xs, hl with
  | [x0, x1], _ =>
    have k0 := hel 0 (by omega); have k1 := hel 1 (by omega)
    rw [hc] at k0 k1
    obtain ⟨a, a0, a1, wa⟩ := DataW.trod_int he k0
    obtain ⟨b, b0, b1, wb⟩ := DataW.trod_int he k1
    simp [Value.cells] at a0 b0
    subst a0 b0 a1 b1
    simp only [Prod.mk.injEq] at ex
    exact ⟨a, b, rfl, ex.1, ex.2, wa, wb⟩
theorem shut_ints2 {w : World} {base : Nat} {sp : Nat → Bool} {held : Bool} {t e : TypeId} {a b : Int} (ht : P.underlying t = some (.array 2 e)) (he : P.underlying e = some (.int .i64)) (hc : P.cellsOf e = 1) (hC : P.cellsOf t = 2)
    (ha : (Lit.int .i64 a).wf = true) (hb : (Lit.int .i64 b).wf = true) :
    DataW.Trod enc P w base sp held t (.agg #[.int .i64 a, .int .i64 b]) (.agg [.lit (.int .i64 a), .lit (.int .i64 b)]) [] :=
  ⟨2, by simp [DataW.trod, Value.cells, ht, he, hc, hC, ha, hb, List.range, List.range.loop]⟩
end

end Go.Proofs.YtcjhojedenpmbaaDoor
