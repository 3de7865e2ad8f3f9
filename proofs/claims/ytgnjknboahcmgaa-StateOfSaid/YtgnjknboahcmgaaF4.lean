/- Texts of one claim, merged: StC4, StR1, StR2, StR3. -/
import Derived.Test.YtgnjknboahcmgaaF3
import Derived.Deep.MidRow
import Derived.Test.YtgnjknboahcmgaaF1
import Derived.StillTailTactics

/- Package state, walked: All, Floor, Commit, Wear. -/
namespace Go.Proofs.Ytgnjknboahcmgaa
set_option maxRecDepth 100000
open Go.RowKit

theorem st_floor (K0 K1 o : Nat) (x : Sn) (i : Int) (w : World) (h : Kp K0 K1 w o x) : Calls Try.prog 18 #[.pointer (some ⟨o, 0, none⟩), .int .i64 i] w fun e w' => e = .returned (.int .i64 (atI x.f i)) ∧ w = w' := by
  obtain ⟨K, h⟩ := h
  have c0 := h.four.1
  have HR := Lib.hid h.2.2.1
  clear h
  go_enter Try.func18, Try.ntmps18
  go_wp2_with fail
  refine (st_at K.gf K.n K.kf x.f i _ HR.out).mono ?_
  rintro e w1 ⟨rfl, rfl⟩
  go_wp2_with fail
  go_ret
  exact ⟨rfl, rfl⟩
/-- records that lie below K0 -/
def XsB (K0 : Nat) (w : World) (oa : Option Addr) (l : List Rc) : Prop := l ≠ [] → ∃ b off, oa = some ⟨b, off, none⟩ ∧ b < K0 ∧ ∀ i (hi : i < l.length), w.rangeAt b (off + i * 3) (l[i].cells)
theorem XsB.keep {K0 : Nat} {w w' : World} {oa : Option Addr} {l : List Rc} (h : XsB K0 w oa l) (hb : Below K0 w w') : XsB K0 w' oa l := fun hl => by
  obtain ⟨b, off, ho, hlt, hc⟩ := h hl
  exact ⟨b, off, ho, hlt, fun i hi j v hj => by rw [World.cell?_of_block (w := w) (hb.block b hlt)]; exact hc i hi j v hj⟩
theorem XsB.of {K0 : Nat} {w w' : World} {oa : Option Addr} {l : List Rc} (h : XsAt w oa l) (hb : Below w.heap.size w w') (hK : w.heap.size ≤ K0) : XsB K0 w' oa l := fun hl => by
  obtain ⟨b, off, ho, hlt, hc⟩ := h hl
  exact ⟨b, off, ho, by omega, fun i hi j v hj => by rw [World.cell?_of_block (w := w) (hb.block b hlt)]; exact hc i hi j v hj⟩
theorem allE_stepC (x : Sn) (l : List Rc) (i : Nat) (hi : i < l.length) : allE x (l.drop i) = (if HasR x l[i] then allE (chgX x l[i]) (l.drop (i + 1)) else 110) ∧ allX x (l.drop i) = (if HasR x l[i] then allX (chgX x l[i]) (l.drop (i + 1)) else x) := by
  rw [List.drop_eq_getElem_cons hi]
  exact ⟨rfl, rfl⟩
/-- what All answers, of the code -/
def AlK (K0 K1 o : Nat) (K : KL) (x : Sn) (l : List Rc) (w : World) (e : Ending) (w' : World) : Prop :=
  e = .returned (.int .i64 (allE x l)) ∧ KpK K0 K1 w' o K (allX x l) ∧ Out K0 K1 w w'

set_option maxHeartbeats 2000000 in
theorem st_all (K0 K1 o : Nat) (K : KL) (x : Sn) (oa : Option Addr) (cap : Nat) (l : List Rc) (w : World) (h : KpK K0 K1 w o K x) (hB : CntB x) (hl : l.length ≤ 1000000) (hr : XsB K0 w oa l) :
    Calls Try.prog 16 #[.pointer (some ⟨o, 0, none⟩), .slice oa l.length cap] w (AlK K0 K1 o K x l w) := by
  obtain ⟨L, hL⟩ : ∃ L, l.length = L := ⟨_, rfl⟩
  have HLN := Lib.hid hL
  have HR := Lib.hid hr
  have HK := Lib.hid h
  have HCB := Lib.hid hB
  rw [hL] at hl ⊢
  clear h hB hr hL
  go_enter Try.func16, Try.ntmps16
  go_wp2_with fail
  go_loopw [10] (fun iv wr => ∃ (i : Nat) (z : Sn), i ≤ L ∧ iv = .int .i64 i ∧ Hid (KpK K0 K1 wr o K z) ∧ Hid (CntB z) ∧ Hid (Out K0 K1 w wr) ∧ Hid (allE x l = allE z (l.drop i) ∧ allX x l = allX z (l.drop i))) (fun iv _ => L + 1 - (intOf iv).toNat)
  case atStart => exact ⟨0, x, Nat.zero_le _, rfl, HK.out, HCB.out, Out.refl _ _ _, rfl, rfl⟩
  case round =>
    obtain ⟨i, z, hi, rfl, HKZ, HCZ, HO, HEQ⟩ := hrel
    by_cases hlt : i < L
    · have hltz : (i : Int) < (L : Int) := by omega
      have hil : i < l.length := by have := HLN.out; omega
      obtain ⟨g, o2, rfl, hg, hrow⟩ := (HR.out.keep HO.out.1) (by intro h0; rw [h0] at hil; exact absurd hil (Nat.not_lt_zero _))
      have r1 := hrow i hil
      have hst := allE_stepC z l i hil
      obtain ⟨⟨k, a, b⟩, hrc⟩ : ∃ r, l[i] = r := ⟨_, rfl⟩
      rw [hrc] at r1 hst
      have HST := Lib.hid hst
      have HR1 : Hid (wr.rangeAt g (o2 + i * 3) (ra k a b).toList) := r1
      have i0 : (0 : Int) ≤ (i : Int) := by omega
      clear r1 hrow hst hrc hg hil
      have HZ0 : Hid (Blk (wr.alloc (.cells #[.int .i64 0, .int .i64 0, .int .i64 0] 37)) wr.heap.size (ra 0 0 0) 37) := Blk.new _ _ _
      go_upto_region 4 with (first
        | (refine wpList_load_mid rfl 37 (.tmp 12) rfl g (o2 + i * 3) rfl (ra k a b).toList _ HR1.out Try.underlying37 rfl size_rec ?_)
        | (refine wpList_store_row rfl 37 (.tmp 6) (.tmp 13) rfl wr.heap.size (ra k a b) rfl rfl 37 (ra 0 0 0) HZ0.out size_rec rfl (ra_one _ _ _) ?_))
      have hb2 : Below wr.heap.size wr ((wr.alloc (.cells #[.int .i64 0, .int .i64 0, .int .i64 0] 37)).setRow wr.heap.size (ra k a b)) := below_put (Nat.le_refl _) _ ((Below.refl _ _).alloc (Nat.le_refl _) _)
      have HK2 := Lib.hid (HKZ.out.call hb2)
      have HW2 := Lib.hid (HO.out.trans (Out.call (by have := HKZ.out.1; have := HKZ.out.1.1.1; omega) hb2))
      have HB2 : Hid (Blk ((wr.alloc (.cells #[.int .i64 0, .int .i64 0, .int .i64 0] 37)).setRow wr.heap.size (ra k a b)) wr.heap.size (ra k a b) 37) := HZ0.out.put _
      generalize (wr.alloc (.cells #[.int .i64 0, .int .i64 0, .int .i64 0] 37)).setRow wr.heap.size (ra k a b) = w2 at HK2 HW2 HB2 ⊢
      clear hb2 HZ0 HR1 HKZ HO
      go_wp2_with (refine wpList_load_row rfl 37 (.tmp 6) rfl wr.heap.size rfl 37 (ra k a b) (0, 0) _ HB2.out Try.underlying37 rfl size_rec ?_)
      refine (st_apply K0 K1 o K z k a b _ HK2.out HCZ.out).mono ?_
      rintro e w3 ⟨rfl, hk3, ho3⟩
      have HK3 := Lib.hid hk3
      have HW3 := Lib.hid (HW2.out.trans ho3)
      clear hk3 ho3 HK2 HW2 HB2
      by_cases hh : HasR z ⟨k, a, b⟩
      · have ha := app_yesC hh
        rw [ha.1]
        rw [ha.2] at HK3
        have HN : Hid (CntB (chgX z ⟨k, a, b⟩)) := HCZ.out.chg _
        have HEQ2 : Hid (allE x l = allE (chgX z ⟨k, a, b⟩) (l.drop (i + 1)) ∧ allX x l = allX (chgX z ⟨k, a, b⟩) (l.drop (i + 1))) := by
          refine ⟨HEQ.out.1.trans (HST.out.1.trans ?_), HEQ.out.2.trans (HST.out.2.trans ?_)⟩
          · rw [if_pos hh]
          · rw [if_pos hh]
        clear hh ha HEQ HST HCZ
        go_wp2_with fail
        refine ⟨⟨i + 1, _, by omega, by go_num, HK3, HN, HW3, HEQ2⟩, ?_⟩
        simp [intOf]; omega
      · have ha := app_noC hh
        rw [ha.1]
        rw [ha.2] at HK3
        have HG : Hid (allE x l = 110 ∧ allX x l = z) := ⟨HEQ.out.1.trans (HST.out.1.trans (if_neg hh)), HEQ.out.2.trans (HST.out.2.trans (if_neg hh))⟩
        clear hh ha HEQ HST HCZ
        go_wp2_with fail
        go_ret
        refine ⟨congrArg (fun c => Ending.returned (.int .i64 c)) HG.out.1.symm, ?_, HW3.out⟩
        rw [HG.out.2]
        exact HK3.out
    · obtain rfl : i = L := by omega
      have hltz : ¬ (i : Int) < (i : Int) := by omega
      have HG : Hid (allE x l = 0 ∧ allX x l = z) := by
        have h1 := HEQ.out
        rw [List.drop_of_length_le (by have := HLN.out; omega)] at h1
        exact h1
      clear hlt HEQ
      go_wp2_with fail
      go_ret
      refine ⟨congrArg (fun c => Ending.returned (.int .i64 c)) HG.out.1.symm, ?_, HO.out⟩
      rw [HG.out.2]
      exact HKZ.out

end Go.Proofs.Ytgnjknboahcmgaa

/- The reference of layer 14, walked: Put. -/
namespace Go.Proofs.Ytgnjknboahcmgaa
set_option maxRecDepth 100000
open Go.RowKit

/-- l with n in the place at -/
def putAt (l : List Int) (a n : Int) (j : Nat) : Int := if (j : Int) = a then n else l.getD j 0
theorem putAt_all (l : List Int) (a n : Int) (ha : 0 ≤ a) : (List.range l.length).map (putAt l a n) = l.set a.toNat n := by
  apply List.ext_getElem
  · simp
  · intro j h1 h2
    simp only [List.getElem_map, List.getElem_range, List.getElem_set, putAt]
    have h3 : j < l.length := by simpa using h1
    by_cases h : (j : Int) = a
    · rw [if_pos h, if_pos (by omega)]
    · rw [if_neg h, if_neg (by omega)]
      simp [List.getD_eq_getElem?_getD, h3]

set_option maxHeartbeats 1000000 in
theorem rst_put (w : World) (v : Value) (l : List Int) (a n : Int) (ha : 0 ≤ a) (hz : l.length ≤ 1000000) (hv : IvAt w v l) :
    Calls Try.prog 28 #[v, .int .i64 a, .int .i64 n] w fun e w' => ∃ u, e = .returned u ∧ w'.ownsRow w.heap.size 3 1 u l.length (intV (l.set a.toNat n)) ∧ Below w.heap.size w w' := by
  rw [← putAt_all l a n ha]
  obtain ⟨oa, cap, rfl, hc, hs⟩ := hv
  obtain ⟨N, hN⟩ : ∃ N, l.length = N := ⟨_, rfl⟩
  have HS := Lib.hid hs
  have HN := Lib.hid hN
  rw [hN] at hz ⊢
  clear hs hN hc
  obtain ⟨i0, hi0, hz0, hz1, hz2⟩ := info_partsX infoInt
  go_enter Try.func28, Try.ntmps28
  go_wp2_with fail
  go_loopw [7, 8] (fun ov iv wr => ∃ k : Nat, k ≤ N ∧ iv = .int .i64 k ∧ Hid (wr.ownsRow w.heap.size 3 1 ov k (intV ((List.range k).map (putAt l a n)))) ∧ Hid (Below w.heap.size w wr)) (fun _ iv _ => N + 1 - (intOf iv).toNat)
  case atStart => exact ⟨0, Nat.zero_le _, rfl, ⟨rfl, .inl ⟨rfl, rfl⟩⟩, Below.refl _ _⟩
  case round =>
    obtain ⟨k, hk, rfl, HO, HB⟩ := hrel
    by_cases hlt : k < N
    · have hltz : (k : Int) < (N : Int) := by omega
      have hkl : k < l.length := by have := HN.out; omega
      have hown := HO.out
      have hbz := HB.out.size
      by_cases hka : (k : Int) = a
      · have hkb : ((k : Int) == a) = true := by simp [hka]
        have HP : Hid (putAt l a n k = n) := if_pos hka
        have HKA := Lib.hid hka
        clear hka hkl
        go_wp2_with (first
          | (at_builtin; refine wpList_append_own _ rfl _ _ 30 rfl w.heap.size 3 i0 (.int .i64 0) 1 8 Try.underlying30 hi0 hz0 hz1 hz2 rfl (by decide) _ _ _ rfl (hown.alloc _) ⟨wr.heap.size, 0, none⟩ 1 1 [.int .i64 n] rfl rfl (fun k u hk => cells_newX wr #[.int .i64 n] 3 k u hk) ?c2 ?c3 ?c4 ?c5 ?_))
        case c2 => intro u hu; simp at hu; subst hu; rfl
        case c3 => unfold maxLen; omega
        case c4 => omega
        case c5 => simp; omega
        intro v' w5 hown1 hgrow1 _
        have hbb := own_belowX hown hbz hgrow1
        have HN2 : Hid (w5.ownsRow w.heap.size 3 1 v' (k + 1) (intV ((List.range (k + 1)).map (putAt l a n)))) := by
          rw [intV_snoc, HP.out]; exact hown1
        have HB2 := Lib.hid (HB.out.trans (hbb.mono (Nat.le_refl _)))
        clear hown hown1 hgrow1 hbb hkb
        go_wp2_with fail
        go_roundw
        case rel => exact ⟨k + 1, hlt, by go_num, HN2, HB2⟩
        case measure => simp [intOf]; omega
      · have hkb : ((k : Int) == a) = false := by simp [hka]
        obtain ⟨g, o, rfl, hg, h1⟩ := HS.out (by intro h0; rw [h0] at hkl; exact absurd hkl (Nat.not_lt_zero _))
        have r1 := h1 k hkl
        have hgd : l.getD k 0 = l[k] := by simp [List.getD_eq_getElem?_getD, hkl]
        obtain ⟨x, hx⟩ : ∃ x, l[k] = x := ⟨_, rfl⟩
        rw [hx] at r1
        have c1 := (HB.out.cell (p := ⟨g, o + k, none⟩) (cell_lt r1)).trans r1
        have HP : Hid (putAt l a n k = x) := by show putAt l a n k = x; unfold putAt; rw [if_neg hka, hgd, hx]
        have i1 : (0 : Int) ≤ (k : Int) := by omega
        have HKA := Lib.hid hka
        clear hka hkl h1 r1 hgd hx hg
        go_wp2_with (first
          | (at_builtin; refine wpList_append_own _ rfl _ _ 30 rfl w.heap.size 3 i0 (.int .i64 0) 1 8 Try.underlying30 hi0 hz0 hz1 hz2 rfl (by decide) _ _ _ rfl (hown.alloc _) ⟨wr.heap.size, 0, none⟩ 1 1 [.int .i64 x] rfl rfl (fun k u hk => cells_newX wr #[.int .i64 x] 3 k u hk) ?c2 ?c3 ?c4 ?c5 ?_))
        case c2 => intro u hu; simp at hu; subst hu; rfl
        case c3 => unfold maxLen; omega
        case c4 => omega
        case c5 => simp; omega
        intro v' w5 hown1 hgrow1 _
        have hbb := own_belowX hown hbz hgrow1
        have HN2 : Hid (w5.ownsRow w.heap.size 3 1 v' (k + 1) (intV ((List.range (k + 1)).map (putAt l a n)))) := by
          rw [intV_snoc, HP.out]; exact hown1
        have HB2 := Lib.hid (HB.out.trans (hbb.mono (Nat.le_refl _)))
        clear hown hown1 hgrow1 hbb hkb c1
        go_wp2_with fail
        go_roundw
        case rel => exact ⟨k + 1, hlt, by go_num, HN2, HB2⟩
        case measure => simp [intOf]; omega
    · obtain rfl : k = N := by omega
      have hltz : ¬ (k : Int) < (k : Int) := by omega
      clear hlt
      go_wp2_with fail
      go_ret
      exact ⟨_, rfl, HO.out, HB.out⟩

end Go.Proofs.Ytgnjknboahcmgaa

/- The reference of layer 14, walked: Apply. -/
namespace Go.Proofs.Ytgnjknboahcmgaa
set_option maxRecDepth 100000
open Go.RowKit

variable {U0 U1 : Nat}
/-- a slice of numbers that lies in none of the blocks from U0 to U1 -/
def IvG (U0 U1 : Nat) (w : World) (v : Value) (l : List Int) : Prop := ∃ (oa : Option Addr) (cap : Nat), v = .slice oa l.length cap ∧ (l.length ≤ cap ∧ cap ≤ maxLen) ∧ (l ≠ [] → ∃ b off, oa = some ⟨b, off, none⟩ ∧ (b < U0 ∨ U1 ≤ b) ∧ b < w.heap.size ∧ ∀ i (hi : i < l.length), w.cell? ⟨b, off + i, none⟩ = some (.int .i64 l[i]))
theorem IvG.iv {w : World} {v : Value} {l : List Int} (h : IvG U0 U1 w v l) : IvAt w v l := by
  obtain ⟨oa, cap, h1, h2, h3⟩ := h
  exact ⟨oa, cap, h1, h2, fun hne => by
    obtain ⟨b, off, e, _, hlt, hc⟩ := h3 hne
    exact ⟨b, off, e, hlt, hc⟩⟩
theorem IvG.keep {w w' : World} {v : Value} {l : List Int} (h : IvG U0 U1 w v l) (hz : w.heap.size ≤ w'.heap.size) (hk : ∀ b, b < w.heap.size → (b < U0 ∨ U1 ≤ b) → w'.heap[b]? = w.heap[b]?) : IvG U0 U1 w' v l := by
  obtain ⟨oa, cap, h1, h2, h3⟩ := h
  exact ⟨oa, cap, h1, h2, fun hne => by
    obtain ⟨b, off, e, ho, hlt, hc⟩ := h3 hne
    exact ⟨b, off, e, ho, by omega, fun i hi => by rw [World.cell?_of_block (w := w) (hk b hlt ho)]; exact hc i hi⟩⟩
theorem IvG.below {w w' : World} {v : Value} {l : List Int} (h : IvG U0 U1 w v l) (hb : Below w.heap.size w w') : IvG U0 U1 w' v l := h.keep hb.size fun b hl _ => hb.block b hl
/-- what lies below U0, or from U1 on -/
theorem IvG.low {w : World} {v : Value} {l : List Int} (h : IvAt w v l) (hU : w.heap.size ≤ U0) : IvG U0 U1 w v l := by
  obtain ⟨oa, cap, h1, h2, h3⟩ := h
  exact ⟨oa, cap, h1, h2, fun hne => by
    obtain ⟨b, off, e, hlt, hc⟩ := h3 hne
    exact ⟨b, off, e, Or.inl (by omega), hlt, hc⟩⟩
/-- what is durable, so -/
def SnG (U0 U1 : Nat) (w : World) (A : Array Value) (x : Sn) : Prop := ∃ vf vc vs vt, A = #[vf, vc, vs, vt] ∧ IvG U0 U1 w vf x.f ∧ IvG U0 U1 w vc x.c ∧ IvG U0 U1 w vs x.s ∧ IvG U0 U1 w vt x.t
theorem SnG.sn {w : World} {A : Array Value} {x : Sn} (h : SnG U0 U1 w A x) : SnAt w A x := by
  obtain ⟨vf, vc, vs, vt, e, h1, h2, h3, h4⟩ := h
  exact ⟨vf, vc, vs, vt, e, h1.iv, h2.iv, h3.iv, h4.iv⟩
theorem SnG.keep {w w' : World} {A : Array Value} {x : Sn} (h : SnG U0 U1 w A x) (hz : w.heap.size ≤ w'.heap.size) (hk : ∀ b, b < w.heap.size → (b < U0 ∨ U1 ≤ b) → w'.heap[b]? = w.heap[b]?) : SnG U0 U1 w' A x := by
  obtain ⟨vf, vc, vs, vt, e, h1, h2, h3, h4⟩ := h
  exact ⟨vf, vc, vs, vt, e, h1.keep hz hk, h2.keep hz hk, h3.keep hz hk, h4.keep hz hk⟩
theorem SnG.below {w w' : World} {A : Array Value} {x : Sn} (h : SnG U0 U1 w A x) (hb : Below w.heap.size w w') : SnG U0 U1 w' A x := h.keep hb.size fun b hl _ => hb.block b hl
theorem SnG.low {w : World} {A : Array Value} {x : Sn} (h : SnAt w A x) (hU : w.heap.size ≤ U0) : SnG U0 U1 w A x := by
  obtain ⟨vf, vc, vs, vt, e, h1, h2, h3, h4⟩ := h
  exact ⟨vf, vc, vs, vt, e, IvG.low h1 hU, IvG.low h2 hU, IvG.low h3 hU, IvG.low h4 hU⟩
/-- .. and in none of the three blocks from B on -/
def IvF (U0 U1 B : Nat) (w : World) (v : Value) (l : List Int) : Prop := ∃ (oa : Option Addr) (cap : Nat), v = .slice oa l.length cap ∧ (l.length ≤ cap ∧ cap ≤ maxLen) ∧ (l ≠ [] → ∃ b off, oa = some ⟨b, off, none⟩ ∧ ((b < B ∨ B + 3 ≤ b) ∧ (b < U0 ∨ U1 ≤ b)) ∧ b < w.heap.size ∧ ∀ i (hi : i < l.length), w.cell? ⟨b, off + i, none⟩ = some (.int .i64 l[i]))
theorem IvF.iv {B : Nat} {w : World} {v : Value} {l : List Int} (h : IvF U0 U1 B w v l) : IvAt w v l := by
  obtain ⟨oa, cap, h1, h2, h3⟩ := h
  exact ⟨oa, cap, h1, h2, fun hne => by
    obtain ⟨b, off, e, _, hlt, hc⟩ := h3 hne
    exact ⟨b, off, e, hlt, hc⟩⟩
theorem IvF.keep {B : Nat} {w w' : World} {v : Value} {l : List Int} (h : IvF U0 U1 B w v l) (hz : w.heap.size ≤ w'.heap.size) (hk : ∀ b, b < w.heap.size → (b < B ∨ B + 3 ≤ b) → w'.heap[b]? = w.heap[b]?) : IvF U0 U1 B w' v l := by
  obtain ⟨oa, cap, h1, h2, h3⟩ := h
  exact ⟨oa, cap, h1, h2, fun hne => by
    obtain ⟨b, off, e, ho, hlt, hc⟩ := h3 hne
    exact ⟨b, off, e, ho, by omega, fun i hi => by rw [World.cell?_of_block (w := w) (hk b hlt ho.1)]; exact hc i hi⟩⟩
theorem IvF.of {w : World} {v : Value} {l : List Int} (h : IvG U0 U1 w v l) : IvF U0 U1 w.heap.size w v l := by
  obtain ⟨oa, cap, h1, h2, h3⟩ := h
  exact ⟨oa, cap, h1, h2, fun hne => by
    obtain ⟨b, off, e, ho, hlt, hc⟩ := h3 hne
    exact ⟨b, off, e, ⟨Or.inl hlt, ho⟩, hlt, hc⟩⟩
theorem IvF.g {B : Nat} {w : World} {v : Value} {l : List Int} (h : IvF U0 U1 B w v l) : IvG U0 U1 w v l := by
  obtain ⟨oa, cap, h1, h2, h3⟩ := h
  exact ⟨oa, cap, h1, h2, fun hne => by
    obtain ⟨b, off, e, ho, hlt, hc⟩ := h3 hne
    exact ⟨b, off, e, ho.2, hlt, hc⟩⟩
theorem IvF.own {B C : Nat} {w : World} {v : Value} {l : List Int} (h : w.ownsRow C 3 1 v l.length (intV l)) (hC : B + 3 ≤ C ∧ U1 ≤ C) : IvF U0 U1 B w v l := by
  have h' := h
  rcases h.2 with ⟨rfl, h0⟩ | ⟨g, cap, cur, rfl, hb, hg, hc, hm, hcs, ht⟩
  · obtain rfl : l = [] := List.eq_nil_of_length_eq_zero h0
    exact ⟨none, 0, rfl, ⟨Nat.zero_le _, Nat.zero_le _⟩, fun h => absurd rfl h⟩
  · refine ⟨some ⟨g, 0, none⟩, cap, rfl, ⟨hc, hm⟩, fun _ => ⟨g, 0, rfl, ⟨Or.inr (by omega), Or.inr (by omega)⟩, (Array.getElem?_eq_some_iff.1 hg).1, fun i hi => ?_⟩⟩
    rw [Nat.zero_add]
    refine cell_of_rowX h' rfl i _ ?_
    unfold intV
    rw [List.getElem?_map, List.getElem?_eq_getElem hi]; rfl
def SnF (U0 U1 B : Nat) (w : World) (vf vc vs vt : Value) (x : Sn) : Prop := IvF U0 U1 B w vf x.f ∧ IvF U0 U1 B w vc x.c ∧ IvF U0 U1 B w vs x.s ∧ IvF U0 U1 B w vt x.t
theorem IvF.oneC {B : Nat} {w : World} {v : Value} {l : List Int} (h : IvF U0 U1 B w v l) : v.oneCell' = true := by obtain ⟨_, _, rfl, _⟩ := h; rfl
theorem SnF.one {B : Nat} {w : World} {vf vc vs vt : Value} {x : Sn} (h : SnF U0 U1 B w vf vc vs vt x) : (#[vf, vc, vs, vt] : Array Value).all (·.oneCell') = true := by
  have h0 := h.1.oneC; have h1 := h.2.1.oneC; have h2 := h.2.2.1.oneC; have h3 := h.2.2.2.oneC
  simp [h0, h1, h2, h3]
theorem SnF.keep {B : Nat} {w w' : World} {vf vc vs vt : Value} {x : Sn} (h : SnF U0 U1 B w vf vc vs vt x) (hz : w.heap.size ≤ w'.heap.size) (hk : ∀ b, b < w.heap.size → (b < B ∨ B + 3 ≤ b) → w'.heap[b]? = w.heap[b]?) : SnF U0 U1 B w' vf vc vs vt x :=
  ⟨h.1.keep hz hk, h.2.1.keep hz hk, h.2.2.1.keep hz hk, h.2.2.2.keep hz hk⟩
theorem SnF.call {B : Nat} {w w' : World} {vf vc vs vt : Value} {x : Sn} (h : SnF U0 U1 B w vf vc vs vt x) (hb : Below w.heap.size w w') : SnF U0 U1 B w' vf vc vs vt x := h.keep hb.size fun b hlt _ => hb.block b hlt
theorem IvF.call {B : Nat} {w w' : World} {v : Value} {l : List Int} (h : IvF U0 U1 B w v l) (hb : Below w.heap.size w w') : IvF U0 U1 B w' v l := h.keep hb.size fun b hlt _ => hb.block b hlt
/-- the boxes of Apply: what is durable, the record, the answer -/
def ApW (w0 : World) (A R : Array Value) (w : World) : Prop :=
  (Blk w w0.heap.size A 32 ∧ Blk w (w0.heap.size + 1) R 37 ∧ Blk w (w0.heap.size + 2) nil4 32 ∧ w0.heap.size + 3 ≤ w.heap.size) ∧ Below w0.heap.size w0 w
theorem ApW.new (w0 : World) (A R : Array Value) : ApW w0 A R (((w0.alloc (.cells A 32)).alloc (.cells R 37)).alloc (.cells nil4 32)) := by
  have b1 : Blk ((w0.alloc (.cells A 32)).alloc (.cells R 37)) (w0.heap.size + 1) R 37 := by
    have h := Blk.new (w0.alloc (.cells A 32)) R 37
    rwa [World.size_alloc] at h
  have b2 : Blk (((w0.alloc (.cells A 32)).alloc (.cells R 37)).alloc (.cells nil4 32)) (w0.heap.size + 2) nil4 32 := by
    have h := Blk.new ((w0.alloc (.cells A 32)).alloc (.cells R 37)) nil4 32
    rwa [World.size_alloc, World.size_alloc] at h
  exact ⟨⟨((Blk.new _ _ _).alloc _).alloc _, b1.alloc _, b2, by simp⟩, (((Below.refl _ _).alloc (Nat.le_refl _) _).alloc (by simp) _).alloc (by simp; omega) _⟩
theorem ApW.call {w0 w w' : World} {A R : Array Value} (h : ApW w0 A R w) (hb : Below w.heap.size w w') : ApW w0 A R w' :=
  ⟨⟨h.1.1.after hb, h.1.2.1.after hb, h.1.2.2.1.after hb, Nat.le_trans h.1.2.2.2 hb.size⟩, h.2.trans (hb.mono h.2.size)⟩
/-- a field of it, set -/
theorem ApW.set {w0 w : World} {A A2 R : Array Value} (h : ApW w0 A R w) (i : Nat) (v : Value) (he : A.setIfInBounds i v = A2) : ApW w0 A2 R (w.setCell ⟨w0.heap.size, i, none⟩ v) :=
  ⟨⟨h.1.1.set i v he, h.1.2.1.set_other (by omega) i v, h.1.2.2.1.set_other (by omega) i v, by rw [World.size_setCell]; exact h.1.2.2.2⟩, h.2.setCell (p := ⟨w0.heap.size, i, none⟩) (Nat.le_refl _) v⟩
theorem SnF.set {w0 w : World} {vf vc vs vt : Value} {x : Sn} (h : SnF U0 U1 w0.heap.size w vf vc vs vt x) (i : Nat) (v : Value) : SnF U0 U1 w0.heap.size (w.setCell ⟨w0.heap.size, i, none⟩ v) vf vc vs vt x :=
  h.keep (by rw [World.size_setCell]; exact Nat.le_refl _) fun b _ ho => Below.heap_setCell _ _ _ _ (by show b ≠ w0.heap.size; omega)
/-- what Apply answers -/
def AppT (U0 U1 : Nat) (x : Sn) (r : Rc) (w : World) (e : Ending) (w' : World) : Prop := (∃ A, e = .returned (.tuple #[.agg A, .int .i64 (appE x r)]) ∧ SnG U0 U1 w' A (appX x r)) ∧ Below w.heap.size w w'
theorem ap_end {w0 w : World} {vf vc vs vt : Value} {R : Array Value} {x y : Sn} {r : Rc} {c : Int} (h : ApW w0 #[vf, vc, vs, vt] R w) (hs : SnF U0 U1 w0.heap.size w vf vc vs vt y) (hg : appE x r = c ∧ appX x r = y) :
    AppT U0 U1 x r w0 (.returned (.tuple #[.agg #[vf, vc, vs, vt], .int .i64 c])) (w.setRow (w0.heap.size + 2) #[vf, vc, vs, vt]) := by
  have hk : ∀ b, b < w.heap.size → (b < w0.heap.size ∨ w0.heap.size + 3 ≤ b) → (w.setRow (w0.heap.size + 2) #[vf, vc, vs, vt]).heap[b]? = w.heap[b]? := fun b _ ho => by
    simp only [World.setRow, Array.getElem?_modify]
    rw [if_neg (by omega)]
  have h2 := hs.keep (by rw [size_setRow]; exact Nat.le_refl _) hk
  rw [← hg.1]
  refine ⟨⟨_, rfl, ?_⟩, below_put (by omega) _ h.2⟩
  rw [hg.2]
  exact ⟨_, _, _, _, rfl, h2.1.g, h2.2.1.g, h2.2.2.1.g, h2.2.2.2.g⟩
theorem app_no {x : Sn} {r : Rc} (h : ¬ HasR x r) : appE x r = 110 ∧ appX x r = x := ⟨if_neg h, if_neg h⟩
theorem app_yes {x : Sn} {r : Rc} (h : HasR x r) : appE x r = 0 ∧ appX x r = chgX x r := ⟨if_pos h, if_pos h⟩

theorem ap_put {B m : Nat} {w : World} {v : Value} {l : List Int} (h : IvF U0 U1 B w v l) (hB : B + 3 ≤ w.heap.size ∧ U1 ≤ w.heap.size) (hz : l.length ≤ 1000000) (hm : l.length = m) (p : Nat) (n : Int) :
    Calls Try.prog 28 #[v, .int .i64 p, .int .i64 n] w fun e w' => ∃ (ou : Option Addr) (cu : Nat), e = .returned (.slice ou m cu) ∧ IvF U0 U1 B w' (.slice ou m cu) (l.set p n) ∧ Below w.heap.size w w' := by
  refine (rst_put w v l p n (by omega) hz h.iv).mono ?_
  rintro e w' ⟨u, rfl, ho, hb⟩
  have h2 : IvF U0 U1 B w' u (l.set p n) := by
    refine IvF.own ?_ hB
    rw [List.length_set]
    exact ho
  obtain ⟨ou, cu, hu, h3⟩ := h2
  rw [List.length_set, hm] at hu
  subst hu
  exact ⟨ou, cu, rfl, ⟨ou, cu, by rw [List.length_set, hm], h3⟩, hb⟩
theorem IvF.cell {B n c g o : Nat} {w : World} {l : List Int} (h : IvF U0 U1 B w (.slice (some ⟨g, o, none⟩) n c) l) (i : Nat) (hi : i < l.length) : w.cell? ⟨g, o + i, none⟩ = some (.int .i64 l[i]) := by
  obtain ⟨oa, cap, hv, _, h3⟩ := h
  obtain ⟨b, off, e, _, _, hc⟩ := h3 (by intro h0; rw [h0] at hi; exact absurd hi (Nat.not_lt_zero _))
  subst e
  cases hv
  exact hc i hi
theorem max_if (a b : Int) : (if a < b then b else a) = max a b := by omega
theorem min_if (a b : Int) : (if b < a then b else a) = min a b := by omega

set_option maxHeartbeats 4000000 in
theorem rst_apply (w : World) (A : Array Value) (x : Sn) (k a b : Int) (hU : U1 ≤ w.heap.size) (hA : SnG U0 U1 w A x) (hB : CntB x) (hz : x.f.length ≤ 1000000 ∧ x.c.length ≤ 1000000 ∧ x.s.length ≤ 1000000 ∧ x.t.length ≤ 1000000) :
    Calls Try.prog 10 #[.agg A, .agg (ra k a b)] w (AppT U0 U1 x ⟨k, a, b⟩ w) := by
  obtain ⟨vf, vc, vs, vt, rfl, i1, i2, i3, i4⟩ := hA
  obtain ⟨w2, hw2⟩ : ∃ w2, ((w.alloc (.cells #[vf, vc, vs, vt] 32)).alloc (.cells (ra k a b) 37)).alloc (.cells #[.slice none 0 0, .slice none 0 0, .slice none 0 0, .slice none 0 0] 32) = w2 := ⟨_, rfl⟩
  have hap : ApW w #[vf, vc, vs, vt] (ra k a b) w2 := by rw [← hw2]; exact ApW.new _ _ _
  have HU1 := Lib.hid hU
  clear hU
  have hsn : SnF U0 U1 w.heap.size w2 vf vc vs vt x := (show SnF U0 U1 w.heap.size w vf vc vs vt x from ⟨IvF.of i1, IvF.of i2, IvF.of i3, IvF.of i4⟩).call hap.2
  have HAP := Lib.hid hap
  have HSN := Lib.hid hsn
  have HCB := Lib.hid hB
  have HZ := Lib.hid hz
  have HRA : Hid ((ra k a b) = #[.int .i64 k, .int .i64 a, .int .i64 b]) := rfl
  clear i1 i2 i3 i4 hap hsn hB hz
  go_enter Try.func10, Try.ntmps10
  go_wp2_with (first
    | (refine wpList_load_row rfl 37 (.tmp 3) rfl (w.heap.size + 1) rfl 37 (ra k a b) (0, 0) _ HAP.out.1.2.1 Try.underlying37 rfl size_rec ?_))
  refine (rrec_may k a b _).mono ?_
  rintro e w3 ⟨rfl, hb3⟩
  have HAP3 := Lib.hid (HAP.out.call hb3)
  have HSN3 := Lib.hid (HSN.out.call hb3)
  clear hb3 hw2 HAP HSN
  by_cases hm : ¬ MayR k a b
  · have hmb : mayR k a b = false := by unfold mayR; exact decide_eq_false hm
    rw [hmb]
    have HG := Lib.hid (app_no (x := x) (r := ⟨k, a, b⟩) fun h => hm h.1)
    clear hm hmb
    go_wp2_with (first
      | (refine wpList_load_row rfl 32 (.tmp 2) rfl w.heap.size rfl 32 #[vf, vc, vs, vt] (0, 0) _ HAP3.out.1.1 Try.underlying32 rfl size_state ?_)
      | (refine wpList_store_row rfl 32 (.tmp 4) (.tmp 9) rfl (w.heap.size + 2) #[vf, vc, vs, vt] rfl rfl 32 nil4 HAP3.out.1.2.2.1 size_state rfl HSN3.out.one ?_))
    refine bodyPost_ret (results_cell_tmp rfl _ _ (w.heap.size + 2) 32 #[vf, vc, vs, vt] _ rfl (HAP3.out.1.2.2.1.put _) Try.underlying32 rfl size_state) rfl ?_
    exact ap_end HAP3.out HSN3.out HG.out
  have hm := Decidable.not_not.1 hm
  have hmb : mayR k a b = true := (mayR_iff k a b).2 hm
  rw [hmb]
  have hbd := may_bd hm
  obtain ⟨p, rfl⟩ : ∃ p : Nat, a = p := ⟨a.toNat, by omega⟩
  have HM := Lib.hid hm
  have c0 : w3.cell? ⟨w.heap.size + 1, 0, none⟩ = some (.int .i64 k) := HAP3.out.1.2.1.cell 0
  have c1 : w3.cell? ⟨w.heap.size + 1, 1, none⟩ = some (.int .i64 p) := HAP3.out.1.2.1.cell 1
  have c2 : w3.cell? ⟨w.heap.size + 1, 2, none⟩ = some (.int .i64 b) := HAP3.out.1.2.1.cell 2
  obtain ⟨⟨of, cf, rfl, hcf, hsf⟩, ⟨oc, cc, rfl, hcc, hsc⟩, ⟨os, cs, rfl, hcs, hss⟩, ⟨ot, ct, rfl, hct, hst⟩⟩ := HSN3.out
  have HSF := Lib.hid hsf
  have HSS := Lib.hid hss
  have HST := Lib.hid hst
  obtain ⟨nf, hnf⟩ : ∃ n, x.f.length = n := ⟨_, rfl⟩
  obtain ⟨nc, hnc⟩ : ∃ n, x.c.length = n := ⟨_, rfl⟩
  obtain ⟨ns, hns⟩ : ∃ n, x.s.length = n := ⟨_, rfl⟩
  obtain ⟨nt, hnt⟩ : ∃ n, x.t.length = n := ⟨_, rfl⟩
  rw [hnf, hnc, hns, hnt] at HAP3 HSN3
  have HLN : Hid (x.f.length = nf ∧ x.c.length = nc ∧ x.s.length = ns ∧ x.t.length = nt) := ⟨hnf, hnc, hns, hnt⟩
  have d0 : w3.cell? ⟨w.heap.size, 0, none⟩ = some (.slice of nf cf) := HAP3.out.1.1.cell 0
  have d1 : w3.cell? ⟨w.heap.size, 1, none⟩ = some (.slice oc nc cc) := HAP3.out.1.1.cell 1
  have d2 : w3.cell? ⟨w.heap.size, 2, none⟩ = some (.slice os ns cs) := HAP3.out.1.1.cell 2
  have d3 : w3.cell? ⟨w.heap.size, 3, none⟩ = some (.slice ot nt ct) := HAP3.out.1.1.cell 3
  clear hm hmb hsf hsc hss hst hcf hcc hcs hct hnf hnc hns hnt
  by_cases hk2 : k ≤ 2
  · by_cases haf : (nf : Int) ≤ (p : Int)
    · have HG := Lib.hid (app_no (x := x) (r := ⟨k, p, b⟩) fun h => by have h1 := h.2.1 hk2; have := HLN.out.1; simp at h1; omega)
      go_wp2_with (first
        | (refine wpList_load_row rfl 32 (.tmp 2) rfl w.heap.size rfl 32 #[.slice of nf cf, .slice oc nc cc, .slice os ns cs, .slice ot nt ct] (0, 0) _ HAP3.out.1.1 Try.underlying32 rfl size_state ?_)
        | (refine wpList_store_row rfl 32 (.tmp 4) (.tmp 19) rfl (w.heap.size + 2) #[.slice of nf cf, .slice oc nc cc, .slice os ns cs, .slice ot nt ct] rfl rfl 32 nil4 HAP3.out.1.2.2.1 size_state rfl HSN3.out.one ?_))
      refine bodyPost_ret (results_cell_tmp rfl _ _ (w.heap.size + 2) 32 #[.slice of nf cf, .slice oc nc cc, .slice os ns cs, .slice ot nt ct] _ rfl (HAP3.out.1.2.2.1.put _) Try.underlying32 rfl size_state) rfl ?_
      exact ap_end HAP3.out HSN3.out HG.out
    · have hpf : p < x.f.length := by have := HLN.out.1; omega
      obtain ⟨gf, pf, rfl, ho, hlt, hcell⟩ := HSF.out (by intro h0; rw [h0] at hpf; exact absurd hpf (Nat.not_lt_zero _))
      have e1 := hcell p hpf
      have hgd : x.f.getD p 0 = x.f[p] := by simp [List.getD_eq_getElem?_getD, hpf]
      obtain ⟨fl, hfl⟩ : ∃ fl, x.f[p] = fl := ⟨_, rfl⟩
      rw [hfl] at e1 hgd
      have p0 : (0 : Int) ≤ (p : Int) := by omega
      have hpn : (p : Int) < (nf : Int) := by omega
      have HZF : Hid (x.f.length ≤ 1000000) := HZ.out.1
      have HGD := Lib.hid hgd
      have HX : Hid (appE x ⟨k, p, b⟩ = 0 ∧ appX x ⟨k, p, b⟩ = ⟨x.f.set p (max fl b), x.c, x.s, x.t⟩) := by
        have h1 := app_yes (x := x) (r := ⟨k, p, b⟩) ⟨HM.out, fun _ => by show (p : Int) < _; have := HLN.out.1; omega, fun h => absurd hk2 h⟩
        refine ⟨h1.1, h1.2.trans ?_⟩
        unfold chgX
        rw [if_pos hk2]
        show (⟨x.f.set (p : Int).toNat (max (x.f.getD (p : Int).toNat 0) b), x.c, x.s, x.t⟩ : Sn) = _
        rw [Int.toNat_natCast, hgd]
      clear hcell ho hlt hfl hgd hpf
      go_upto_region 6 with fail
      go_still_tail 13, (by kernel_rfl)
      change wpList _ _ _ _ _ w3.drew
      rw [max_if]
      obtain ⟨mx, hmx⟩ : ∃ mx, max fl b = mx := ⟨_, rfl⟩
      rw [hmx] at HX ⊢
      clear hmx
      have HAPD : Hid (ApW w #[.slice (some ⟨gf, pf, none⟩) nf cf, .slice oc nc cc, .slice os ns cs, .slice ot nt ct] (ra k p b) w3.drew) := HAP3.out.call (Below.refl _ _).drew
      have HSND := Lib.hid (HSN3.out.call (Below.refl _ _).drew)
      generalize w3.drew = w4 at HAPD HSND ⊢
      clear c0 c1 c2 d0 d1 d2 d3 e1 HAP3 HSN3
      go_wp2_with fail
      refine (ap_put HSND.out.1 ⟨HAPD.out.1.2.2.2, Nat.le_trans HU1.out HAPD.out.2.size⟩ HZF.out HLN.out.1 p _).mono ?_
      rintro e w5 ⟨ou, cu, rfl, hu, hb5⟩
      have HU := Lib.hid hu
      have HAP5 := Lib.hid (HAPD.out.call hb5)
      have HSN5 := Lib.hid (HSND.out.call hb5)
      have d0 : w5.cell? ⟨w.heap.size, 0, none⟩ = some (.slice (some ⟨gf, pf, none⟩) nf cf) := HAP5.out.1.1.cell 0
      have f0 : w5.frozen? ⟨w.heap.size, 0, none⟩ = false := HAP5.out.1.1.free 0
      clear hu hb5 HAPD HSND
      go_upto_region 7 with fail
      have HAP6 : Hid (ApW w #[.slice ou nf cu, .slice oc nc cc, .slice os ns cs, .slice ot nt ct] (ra k p b) (w5.setCell ⟨w.heap.size, 0, none⟩ (.slice ou nf cu))) := HAP5.out.set 0 _ rfl
      have HSN6 : Hid (SnF U0 U1 w.heap.size (w5.setCell ⟨w.heap.size, 0, none⟩ (.slice ou nf cu)) (.slice ou nf cu) (.slice oc nc cc) (.slice os ns cs) (.slice ot nt ct) ⟨x.f.set p mx, x.c, x.s, x.t⟩) := SnF.set (x := ⟨x.f.set p mx, x.c, x.s, x.t⟩) ⟨HU.out, HSN5.out.2.1, HSN5.out.2.2.1, HSN5.out.2.2.2⟩ 0 _
      generalize w5.setCell ⟨w.heap.size, 0, none⟩ (.slice ou nf cu) = w6 at HAP6 HSN6 ⊢
      clear d0 f0 HAP5 HSN5 HU
      go_wp2_with (first
        | (refine wpList_load_row rfl 32 (.tmp 2) rfl w.heap.size rfl 32 #[.slice ou nf cu, .slice oc nc cc, .slice os ns cs, .slice ot nt ct] (0, 0) _ HAP6.out.1.1 Try.underlying32 rfl size_state ?_)
        | (refine wpList_store_row rfl 32 (.tmp 4) (.tmp 35) rfl (w.heap.size + 2) #[.slice ou nf cu, .slice oc nc cc, .slice os ns cs, .slice ot nt ct] rfl rfl 32 nil4 HAP6.out.1.2.2.1 size_state rfl HSN6.out.one ?_))
      refine bodyPost_ret (results_cell_tmp rfl _ _ (w.heap.size + 2) 32 #[.slice ou nf cu, .slice oc nc cc, .slice os ns cs, .slice ot nt ct] _ rfl (HAP6.out.1.2.2.1.put _) Try.underlying32 rfl size_state) rfl ?_
      exact ap_end HAP6.out HSN6.out HX.out
  · have hge : ¬ k ≤ 2 := hk2
    by_cases hall : ¬ ((p : Int) < nc ∧ (p : Int) < ns ∧ (p : Int) < nt)
    · have HG := Lib.hid (app_no (x := x) (r := ⟨k, p, b⟩) fun h => by have h1 := h.2.2 hk2; have := HLN.out; simp at h1; omega)
      by_cases h1 : (nc : Int) ≤ (p : Int)
      · go_upto_region 9 with fail
        go_wp2_with (first
          | (refine wpList_load_row rfl 32 (.tmp 2) rfl w.heap.size rfl 32 #[.slice of nf cf, .slice oc nc cc, .slice os ns cs, .slice ot nt ct] (0, 0) _ HAP3.out.1.1 Try.underlying32 rfl size_state ?_)
          | (refine wpList_store_row rfl 32 (.tmp 4) (.tmp 58) rfl (w.heap.size + 2) #[.slice of nf cf, .slice oc nc cc, .slice os ns cs, .slice ot nt ct] rfl rfl 32 nil4 HAP3.out.1.2.2.1 size_state rfl HSN3.out.one ?_))
        refine bodyPost_ret (results_cell_tmp rfl _ _ (w.heap.size + 2) 32 #[.slice of nf cf, .slice oc nc cc, .slice os ns cs, .slice ot nt ct] _ rfl (HAP3.out.1.2.2.1.put _) Try.underlying32 rfl size_state) rfl ?_
        exact ap_end HAP3.out HSN3.out HG.out
      by_cases h2 : (ns : Int) ≤ (p : Int)
      · go_upto_region 9 with fail
        go_wp2_with (first
          | (refine wpList_load_row rfl 32 (.tmp 2) rfl w.heap.size rfl 32 #[.slice of nf cf, .slice oc nc cc, .slice os ns cs, .slice ot nt ct] (0, 0) _ HAP3.out.1.1 Try.underlying32 rfl size_state ?_)
          | (refine wpList_store_row rfl 32 (.tmp 4) (.tmp 58) rfl (w.heap.size + 2) #[.slice of nf cf, .slice oc nc cc, .slice os ns cs, .slice ot nt ct] rfl rfl 32 nil4 HAP3.out.1.2.2.1 size_state rfl HSN3.out.one ?_))
        refine bodyPost_ret (results_cell_tmp rfl _ _ (w.heap.size + 2) 32 #[.slice of nf cf, .slice oc nc cc, .slice os ns cs, .slice ot nt ct] _ rfl (HAP3.out.1.2.2.1.put _) Try.underlying32 rfl size_state) rfl ?_
        exact ap_end HAP3.out HSN3.out HG.out
      have h3 : (nt : Int) ≤ (p : Int) := by omega
      go_upto_region 9 with fail
      go_wp2_with (first
        | (refine wpList_load_row rfl 32 (.tmp 2) rfl w.heap.size rfl 32 #[.slice of nf cf, .slice oc nc cc, .slice os ns cs, .slice ot nt ct] (0, 0) _ HAP3.out.1.1 Try.underlying32 rfl size_state ?_)
        | (refine wpList_store_row rfl 32 (.tmp 4) (.tmp 58) rfl (w.heap.size + 2) #[.slice of nf cf, .slice oc nc cc, .slice os ns cs, .slice ot nt ct] rfl rfl 32 nil4 HAP3.out.1.2.2.1 size_state rfl HSN3.out.one ?_))
      refine bodyPost_ret (results_cell_tmp rfl _ _ (w.heap.size + 2) 32 #[.slice of nf cf, .slice oc nc cc, .slice os ns cs, .slice ot nt ct] _ rfl (HAP3.out.1.2.2.1.put _) Try.underlying32 rfl size_state) rfl ?_
      exact ap_end HAP3.out HSN3.out HG.out
    have hall := Decidable.not_not.1 hall
    obtain ⟨hpc, hps, hpt⟩ := hall
    have q1 : ¬ (nc : Int) ≤ (p : Int) := by omega
    have q2 : ¬ (ns : Int) ≤ (p : Int) := by omega
    have q3 : ¬ (nt : Int) ≤ (p : Int) := by omega
    have p0 : (0 : Int) ≤ (p : Int) := by omega
    have HZC : Hid (x.c.length ≤ 1000000 ∧ x.s.length ≤ 1000000 ∧ x.t.length ≤ 1000000) := HZ.out.2
    have hy := app_yes (x := x) (r := ⟨k, p, b⟩) ⟨HM.out, fun h => absurd h hk2, fun _ => by have := HLN.out; simp; omega⟩
    by_cases hk3 : k = 3
    · subst hk3
      have HX : Hid (appE x ⟨3, p, b⟩ = 0 ∧ appX x ⟨3, p, b⟩ = ⟨x.f, x.c.set p b, x.s, x.t⟩) := by
        refine ⟨hy.1, hy.2.trans ?_⟩
        unfold chgX
        rw [if_neg hk2, if_pos rfl]
        rfl
      clear hy
      go_wp2_with fail
      refine (ap_put HSN3.out.2.1 ⟨HAP3.out.1.2.2.2, Nat.le_trans HU1.out HAP3.out.2.size⟩ HZC.out.1 HLN.out.2.1 p b).mono ?_
      rintro e w5 ⟨ou, cu, rfl, hu, hb5⟩
      have HU := Lib.hid hu
      have HAP5 := Lib.hid (HAP3.out.call hb5)
      have HSN5 := Lib.hid (HSN3.out.call hb5)
      clear d0 d1 d2 d3
      have d1 : w5.cell? ⟨w.heap.size, 1, none⟩ = some (.slice oc nc cc) := HAP5.out.1.1.cell 1
      have f1 : w5.frozen? ⟨w.heap.size, 1, none⟩ = false := HAP5.out.1.1.free 1
      clear hu hb5 HAP3 HSN3 c0 c1 c2
      go_upto_region 12 with fail
      have HAP6 : Hid (ApW w #[.slice of nf cf, .slice ou nc cu, .slice os ns cs, .slice ot nt ct] (ra 3 p b) (w5.setCell ⟨w.heap.size, 1, none⟩ (.slice ou nc cu))) := HAP5.out.set 1 _ rfl
      have HSN6 : Hid (SnF U0 U1 w.heap.size (w5.setCell ⟨w.heap.size, 1, none⟩ (.slice ou nc cu)) (.slice of nf cf) (.slice ou nc cu) (.slice os ns cs) (.slice ot nt ct) ⟨x.f, x.c.set p b, x.s, x.t⟩) := SnF.set (x := ⟨x.f, x.c.set p b, x.s, x.t⟩) ⟨HSN5.out.1, HU.out, HSN5.out.2.2.1, HSN5.out.2.2.2⟩ 1 _
      generalize w5.setCell ⟨w.heap.size, 1, none⟩ (.slice ou nc cu) = w6 at HAP6 HSN6 ⊢
      clear d1 f1 HAP5 HSN5 HU
      go_wp2_with (first
        | (refine wpList_load_row rfl 32 (.tmp 2) rfl w.heap.size rfl 32 #[.slice of nf cf, .slice ou nc cu, .slice os ns cs, .slice ot nt ct] (0, 0) _ HAP6.out.1.1 Try.underlying32 rfl size_state ?_)
        | (refine wpList_store_row rfl 32 (.tmp 4) (.tmp 70) rfl (w.heap.size + 2) #[.slice of nf cf, .slice ou nc cu, .slice os ns cs, .slice ot nt ct] rfl rfl 32 nil4 HAP6.out.1.2.2.1 size_state rfl HSN6.out.one ?_))
      refine bodyPost_ret (results_cell_tmp rfl _ _ (w.heap.size + 2) 32 #[.slice of nf cf, .slice ou nc cu, .slice os ns cs, .slice ot nt ct] _ rfl (HAP6.out.1.2.2.1.put _) Try.underlying32 rfl size_state) rfl ?_
      exact ap_end HAP6.out HSN6.out HX.out
    · have hk4 : k = 4 := by omega
      subst hk4
      have hkb : ((4 : Int) == 3) = false := rfl
      have HY := Lib.hid hy
      clear hy
      go_wp2_with fail
      refine (ap_put HSN3.out.2.1 ⟨HAP3.out.1.2.2.2, Nat.le_trans HU1.out HAP3.out.2.size⟩ HZC.out.1 HLN.out.2.1 p 0).mono ?_
      rintro e w5 ⟨ou, cu, rfl, hu, hb5⟩
      have HU := Lib.hid hu
      have HAP5 := Lib.hid (HAP3.out.call hb5)
      have HSN5 := Lib.hid (HSN3.out.call hb5)
      clear d0 d1 d2 d3 c0 c1 c2
      have d1 : w5.cell? ⟨w.heap.size, 1, none⟩ = some (.slice oc nc cc) := HAP5.out.1.1.cell 1
      have f1 : w5.frozen? ⟨w.heap.size, 1, none⟩ = false := HAP5.out.1.1.free 1
      clear hu hb5
      go_upto_region 14 with fail
      have HAP6 : Hid (ApW w #[.slice of nf cf, .slice ou nc cu, .slice os ns cs, .slice ot nt ct] (ra 4 p b) (w5.setCell ⟨w.heap.size, 1, none⟩ (.slice ou nc cu))) := HAP5.out.set 1 _ rfl
      have HSN6 : Hid (SnF U0 U1 w.heap.size (w5.setCell ⟨w.heap.size, 1, none⟩ (.slice ou nc cu)) (.slice of nf cf) (.slice ou nc cu) (.slice os ns cs) (.slice ot nt ct) ⟨x.f, x.c.set p 0, x.s, x.t⟩) := SnF.set (x := ⟨x.f, x.c.set p 0, x.s, x.t⟩) ⟨HSN5.out.1, HU.out, HSN5.out.2.2.1, HSN5.out.2.2.2⟩ 1 _
      generalize w5.setCell ⟨w.heap.size, 1, none⟩ (.slice ou nc cu) = w6 at HAP6 HSN6 ⊢
      clear d1 f1 HAP5 HSN5 HU HAP3 HSN3
      have c1 : w6.cell? ⟨w.heap.size + 1, 1, none⟩ = some (.int .i64 p) := HAP6.out.1.2.1.cell 1
      have c2 : w6.cell? ⟨w.heap.size + 1, 2, none⟩ = some (.int .i64 b) := HAP6.out.1.2.1.cell 2
      have d2 : w6.cell? ⟨w.heap.size, 2, none⟩ = some (.slice os ns cs) := HAP6.out.1.1.cell 2
      have d3 : w6.cell? ⟨w.heap.size, 3, none⟩ = some (.slice ot nt ct) := HAP6.out.1.1.cell 3
      by_cases hb1 : b = 1
      · subst hb1
        have hpz : p < x.s.length := by have := HLN.out; omega
        obtain ⟨gs, ps, rfl, _, _, _⟩ := HSS.out (by intro h0; rw [h0] at hpz; exact absurd hpz (Nat.not_lt_zero _))
        have e1 := HSN6.out.2.2.1.cell p hpz
        have hgd : x.s.getD p 0 = x.s[p] := by simp [List.getD_eq_getElem?_getD, hpz]
        have hcnt := HCB.out.1 _ (List.getElem_mem hpz)
        obtain ⟨fl, hfl⟩ : ∃ fl, x.s[p] = fl := ⟨_, rfl⟩
        rw [hfl] at e1 hgd hcnt
        have hpn : (p : Int) < (ns : Int) := by omega
        have HX : Hid (appE x ⟨4, p, 1⟩ = 0 ∧ appX x ⟨4, p, 1⟩ = ⟨x.f, x.c.set p 0, x.s.set p (min (fl + 1) 16777215), x.t⟩) := by
          refine ⟨HY.out.1, HY.out.2.trans ?_⟩
          unfold chgX
          rw [if_neg (show ¬ (4 : Int) ≤ 2 by decide), if_neg (show ¬ (4 : Int) = 3 by decide), if_pos rfl]
          show (⟨x.f, x.c.set (p : Int).toNat 0, _, _⟩ : Sn) = _
          rw [Int.toNat_natCast, hgd]
        have hw : IntKind.i64.wrap (fl + 1) = fl + 1 := by rw [IntKind.wrap_i64]; omega
        clear hfl hgd hpz
        go_upto_region 15 with fail
        go_still_tail 12, (by kernel_rfl)
        change wpList _ _ _ _ _ w6.drew
        rw [min_if]
        obtain ⟨mn, hmn⟩ : ∃ mn, min (fl + 1) 16777215 = mn := ⟨_, rfl⟩
        rw [hmn] at HX ⊢
        clear hmn hcnt hw
        have HAPD := Lib.hid (HAP6.out.call (Below.refl _ _).drew)
        have HSND := Lib.hid (HSN6.out.call (Below.refl _ _).drew)
        generalize w6.drew = w7 at HAPD HSND ⊢
        clear c1 c2 d2 d3 e1 HAP6 HSN6
        go_wp2_with fail
        refine (ap_put HSND.out.2.2.1 ⟨HAPD.out.1.2.2.2, Nat.le_trans HU1.out HAPD.out.2.size⟩ HZC.out.2.1 HLN.out.2.2.1 p _).mono ?_
        rintro e w8 ⟨oz, cz, rfl, hz8, hb8⟩
        have HU := Lib.hid hz8
        have HAP8 := Lib.hid (HAPD.out.call hb8)
        have HSN8 := Lib.hid (HSND.out.call hb8)
        have d2 : w8.cell? ⟨w.heap.size, 2, none⟩ = some (.slice (some ⟨gs, ps, none⟩) ns cs) := HAP8.out.1.1.cell 2
        have f2 : w8.frozen? ⟨w.heap.size, 2, none⟩ = false := HAP8.out.1.1.free 2
        clear hz8 hb8 HAPD HSND
        go_upto_region 17 with fail
        have HAP9 : Hid (ApW w #[.slice of nf cf, .slice ou nc cu, .slice oz ns cz, .slice ot nt ct] (ra 4 p 1) (w8.setCell ⟨w.heap.size, 2, none⟩ (.slice oz ns cz))) := HAP8.out.set 2 _ rfl
        have HSN9 : Hid (SnF U0 U1 w.heap.size (w8.setCell ⟨w.heap.size, 2, none⟩ (.slice oz ns cz)) (.slice of nf cf) (.slice ou nc cu) (.slice oz ns cz) (.slice ot nt ct) ⟨x.f, x.c.set p 0, x.s.set p mn, x.t⟩) := SnF.set (x := ⟨x.f, x.c.set p 0, x.s.set p mn, x.t⟩) ⟨HSN8.out.1, HSN8.out.2.1, HU.out, HSN8.out.2.2.2⟩ 2 _
        generalize w8.setCell ⟨w.heap.size, 2, none⟩ (.slice oz ns cz) = w9 at HAP9 HSN9 ⊢
        clear d2 f2 HAP8 HSN8 HU
        go_wp2_with (first
          | (refine wpList_load_row rfl 32 (.tmp 2) rfl w.heap.size rfl 32 #[.slice of nf cf, .slice ou nc cu, .slice oz ns cz, .slice ot nt ct] (0, 0) _ HAP9.out.1.1 Try.underlying32 rfl size_state ?_)
          | (refine wpList_store_row rfl 32 (.tmp 4) (.tmp 108) rfl (w.heap.size + 2) #[.slice of nf cf, .slice ou nc cu, .slice oz ns cz, .slice ot nt ct] rfl rfl 32 nil4 HAP9.out.1.2.2.1 size_state rfl HSN9.out.one ?_))
        refine bodyPost_ret (results_cell_tmp rfl _ _ (w.heap.size + 2) 32 #[.slice of nf cf, .slice ou nc cu, .slice oz ns cz, .slice ot nt ct] _ rfl (HAP9.out.1.2.2.1.put _) Try.underlying32 rfl size_state) rfl ?_
        exact ap_end HAP9.out HSN9.out HX.out
      · have hbb : (b == 1) = false := by simp [hb1]
        have hpz : p < x.t.length := by have := HLN.out; omega
        obtain ⟨gs, ps, rfl, _, _, _⟩ := HST.out (by intro h0; rw [h0] at hpz; exact absurd hpz (Nat.not_lt_zero _))
        have e1 := HSN6.out.2.2.2.cell p hpz
        have hgd : x.t.getD p 0 = x.t[p] := by simp [List.getD_eq_getElem?_getD, hpz]
        have hcnt := HCB.out.2 _ (List.getElem_mem hpz)
        obtain ⟨fl, hfl⟩ : ∃ fl, x.t[p] = fl := ⟨_, rfl⟩
        rw [hfl] at e1 hgd hcnt
        have hpn : (p : Int) < (nt : Int) := by omega
        have HX : Hid (appE x ⟨4, p, b⟩ = 0 ∧ appX x ⟨4, p, b⟩ = ⟨x.f, x.c.set p 0, x.s, x.t.set p (min (fl + 1) 16777215)⟩) := by
          refine ⟨HY.out.1, HY.out.2.trans ?_⟩
          unfold chgX
          rw [if_neg (show ¬ (4 : Int) ≤ 2 by decide), if_neg (show ¬ (4 : Int) = 3 by decide), if_neg hb1]
          show (⟨x.f, x.c.set (p : Int).toNat 0, _, _⟩ : Sn) = _
          rw [Int.toNat_natCast, hgd]
        have hw : IntKind.i64.wrap (fl + 1) = fl + 1 := by rw [IntKind.wrap_i64]; omega
        clear hfl hgd hpz
        go_upto_region 16 with fail
        go_still_tail 12, (by kernel_rfl)
        change wpList _ _ _ _ _ w6.drew
        rw [min_if]
        obtain ⟨mn, hmn⟩ : ∃ mn, min (fl + 1) 16777215 = mn := ⟨_, rfl⟩
        rw [hmn] at HX ⊢
        clear hmn hcnt hw
        have HAPD := Lib.hid (HAP6.out.call (Below.refl _ _).drew)
        have HSND := Lib.hid (HSN6.out.call (Below.refl _ _).drew)
        generalize w6.drew = w7 at HAPD HSND ⊢
        clear c1 c2 d2 d3 e1 HAP6 HSN6
        go_wp2_with fail
        refine (ap_put HSND.out.2.2.2 ⟨HAPD.out.1.2.2.2, Nat.le_trans HU1.out HAPD.out.2.size⟩ HZC.out.2.2 HLN.out.2.2.2 p _).mono ?_
        rintro e w8 ⟨oz, cz, rfl, hz8, hb8⟩
        have HU := Lib.hid hz8
        have HAP8 := Lib.hid (HAPD.out.call hb8)
        have HSN8 := Lib.hid (HSND.out.call hb8)
        have d2 : w8.cell? ⟨w.heap.size, 3, none⟩ = some (.slice (some ⟨gs, ps, none⟩) nt ct) := HAP8.out.1.1.cell 3
        have f2 : w8.frozen? ⟨w.heap.size, 3, none⟩ = false := HAP8.out.1.1.free 3
        clear hz8 hb8 HAPD HSND
        go_upto_region 17 with fail
        have HAP9 : Hid (ApW w #[.slice of nf cf, .slice ou nc cu, .slice os ns cs, .slice oz nt cz] (ra 4 p b) (w8.setCell ⟨w.heap.size, 3, none⟩ (.slice oz nt cz))) := HAP8.out.set 3 _ rfl
        have HSN9 : Hid (SnF U0 U1 w.heap.size (w8.setCell ⟨w.heap.size, 3, none⟩ (.slice oz nt cz)) (.slice of nf cf) (.slice ou nc cu) (.slice os ns cs) (.slice oz nt cz) ⟨x.f, x.c.set p 0, x.s, x.t.set p mn⟩) := SnF.set (x := ⟨x.f, x.c.set p 0, x.s, x.t.set p mn⟩) ⟨HSN8.out.1, HSN8.out.2.1, HSN8.out.2.2.1, HU.out⟩ 3 _
        generalize w8.setCell ⟨w.heap.size, 3, none⟩ (.slice oz nt cz) = w9 at HAP9 HSN9 ⊢
        clear d2 f2 HAP8 HSN8 HU
        go_wp2_with (first
          | (refine wpList_load_row rfl 32 (.tmp 2) rfl w.heap.size rfl 32 #[.slice of nf cf, .slice ou nc cu, .slice os ns cs, .slice oz nt cz] (0, 0) _ HAP9.out.1.1 Try.underlying32 rfl size_state ?_)
          | (refine wpList_store_row rfl 32 (.tmp 4) (.tmp 108) rfl (w.heap.size + 2) #[.slice of nf cf, .slice ou nc cu, .slice os ns cs, .slice oz nt cz] rfl rfl 32 nil4 HAP9.out.1.2.2.1 size_state rfl HSN9.out.one ?_))
        refine bodyPost_ret (results_cell_tmp rfl _ _ (w.heap.size + 2) 32 #[.slice of nf cf, .slice ou nc cu, .slice os ns cs, .slice oz nt cz] _ rfl (HAP9.out.1.2.2.1.put _) Try.underlying32 rfl size_state) rfl ?_
        exact ap_end HAP9.out HSN9.out HX.out

end Go.Proofs.Ytgnjknboahcmgaa

/- The reference of layer 14, walked: All. -/
namespace Go.Proofs.Ytgnjknboahcmgaa
set_option maxRecDepth 100000
open Go.RowKit

variable {U0 U1 : Nat}

/-- none of these is a number -/
def AllSl (cs : Array Value) : Prop := ∀ (j : Nat) (n : Int), cs[j]? ≠ some (.int .i64 n)
theorem allSl_nil4 : AllSl nil4 := fun j n h => by
  match j, h with
  | 0, h => cases h
  | 1, h => cases h
  | 2, h => cases h
  | 3, h => cases h
  | j + 4, h => simp [nil4] at h
theorem snAt_all {w : World} {A : Array Value} {x : Sn} (h : SnG U0 U1 w A x) : AllSl A := by
  obtain ⟨_, _, _, _, rfl, ⟨_, _, rfl, _⟩, ⟨_, _, rfl, _⟩, ⟨_, _, rfl, _⟩, ⟨_, _, rfl, _⟩⟩ := h
  intro j n h
  match j, h with
  | 0, h => cases h
  | 1, h => cases h
  | 2, h => cases h
  | 3, h => cases h
  | j + 4, h => simp at h
theorem snAt_sizeT {w : World} {A : Array Value} {x : Sn} (h : SnG U0 U1 w A x) : (Try.prog.info? 32).map (·.size) = some A.size := by obtain ⟨_, _, _, _, rfl, _⟩ := h; exact size_state
theorem snAt_oneT {w : World} {A : Array Value} {x : Sn} (h : SnG U0 U1 w A x) : A.all (·.oneCell') = true := by
  obtain ⟨_, _, _, _, rfl, ⟨_, _, rfl, _⟩, ⟨_, _, rfl, _⟩, ⟨_, _, rfl, _⟩, ⟨_, _, rfl, _⟩⟩ := h
  simp [Value.oneCell']
theorem snAt_four4 {w : World} {A : Array Value} {x : Sn} (h : SnG U0 U1 w A x) : 4 = A.size := by obtain ⟨_, _, _, _, rfl, _⟩ := h; rfl
/-- a store into a block without numbers leaves what is durable as it reads -/
theorem iv_put {w : World} {q : Nat} {cs : Array Value} {t : TypeId} (hq : Blk w q cs t) (hall : AllSl cs) (ds : Array Value) {v : Value} {l : List Int} (h : IvG U0 U1 w v l) : IvG U0 U1 (w.setRow q ds) v l := by
  obtain ⟨oa, cap, h1, h2, h3⟩ := h
  refine ⟨oa, cap, h1, h2, fun hne => ?_⟩
  obtain ⟨b, off, e, ho, hlt, hc⟩ := h3 hne
  have h0 : 0 < l.length := List.length_pos_iff.2 hne
  have hbq : b ≠ q := fun hb => by
    subst hb
    have h4 := hc 0 h0
    rw [hq.cell] at h4
    exact hall _ _ h4
  refine ⟨b, off, e, ho, by rw [size_setRow]; exact hlt, fun i hi => ?_⟩
  rw [World.cell?_of_block (w := w) ?_]
  · exact hc i hi
  · simp only [World.setRow, Array.getElem?_modify]
    rw [if_neg (Ne.symm hbq)]
theorem sn_put_row {w : World} {q : Nat} {cs : Array Value} {t : TypeId} (hq : Blk w q cs t) (hall : AllSl cs) (ds : Array Value) {A : Array Value} {x : Sn} (h : SnG U0 U1 w A x) : SnG U0 U1 (w.setRow q ds) A x := by
  obtain ⟨vf, vc, vs, vt, e, h1, h2, h3, h4⟩ := h
  exact ⟨vf, vc, vs, vt, e, iv_put hq hall ds h1, iv_put hq hall ds h2, iv_put hq hall ds h3, iv_put hq hall ds h4⟩
/-- block q, a new one, holds it -/
def StP (U0 U1 : Nat) (wr : World) (y : Sn) (q : Nat) (w : World) : Prop := wr.heap.size ≤ q ∧ Below wr.heap.size wr w ∧ ∃ A, Blk w q A 32 ∧ SnG U0 U1 w A y
def TS (U0 U1 : Nat) (wr : World) (y : Sn) (w w' : World) : Prop :=
  (∀ A x, SnG U0 U1 w A x → SnG U0 U1 w' A x) ∧ (∀ q cs, AllSl cs → cs.size = 4 → Blk w q cs 32 → ∃ cs' : Array Value, AllSl cs' ∧ cs'.size = 4 ∧ Blk w' q cs' 32) ∧ ∀ q, StP U0 U1 wr y q w → StP U0 U1 wr y q w'
theorem TS.refl (wr : World) (y : Sn) (w : World) : TS U0 U1 wr y w w := ⟨fun _ _ h => h, fun _ cs h1 h2 h3 => ⟨cs, h1, h2, h3⟩, fun _ h => h⟩
theorem TS.call {wr w w' : World} {y : Sn} (hC : Below wr.heap.size wr w) (hb : Below w.heap.size w w') : TS U0 U1 wr y w w' :=
  ⟨fun _ _ h => h.below hb, fun _ cs h1 h2 h3 => ⟨cs, h1, h2, h3.after hb⟩, fun _ ⟨h1, h2, A, h3, h4⟩ => ⟨h1, h2.trans (hb.mono hC.size), A, h3.after hb, h4.below hb⟩⟩
theorem StP.mk {wr w : World} {y : Sn} {q : Nat} {cs A : Array Value} (hC : Below wr.heap.size wr w) (hq : wr.heap.size ≤ q) (hqk : Blk w q cs 32) (hall : AllSl cs) (hs : SnG U0 U1 w A y) : StP U0 U1 wr y q (w.setRow q A) :=
  ⟨hq, below_put hq _ hC, A, hqk.put _, sn_put_row hqk hall _ hs⟩
theorem TS.store {wr w : World} {y : Sn} {q : Nat} {cs A : Array Value} (hC : Below wr.heap.size wr w) (hq : wr.heap.size ≤ q) (hqk : Blk w q cs 32) (hall : AllSl cs) (hs : SnG U0 U1 w A y) : TS U0 U1 wr y w (w.setRow q A) := by
  refine ⟨fun _ _ h => sn_put_row hqk hall _ h, fun g ds h1 h2 h3 => ?_, fun g ⟨h1, h2, D, h3, h4⟩ => ?_⟩
  · by_cases e : q = g
    · subst e; exact ⟨A, snAt_all hs, (snAt_four4 hs).symm, h3.put _⟩
    · exact ⟨ds, h1, h2, h3.put_other e _⟩
  · by_cases e : q = g
    · subst e; exact StP.mk hC hq hqk hall hs
    · exact ⟨h1, below_put hq _ h2, D, h3.put_other e _, sn_put_row hqk hall _ h4⟩
def SpAL (U0 U1 : Nat) (wr : World) (y : Sn) (ec : Int) (j : Nat) (a : Act) (w : World) : Prop := match j with
  | 5 => ∃ A, a.tmps.getD 21 undef = .tuple #[.agg A, .int .i64 ec] ∧ SnG U0 U1 w A y
  | 6 => ∃ A, a.tmps.getD 15 undef = .tuple #[.agg A, .int .i64 ec] ∧ SnG U0 U1 w A y
  | 7 => ∃ A, a.tmps.getD 22 undef = .agg A ∧ SnG U0 U1 w A y
  | 9 => ∃ q cs, a.tmps.getD 7 undef = .pointer (some ⟨q, 0, none⟩) ∧ wr.heap.size ≤ q ∧ Blk w q cs 32 ∧ cs.size = 4 ∧ AllSl cs
  | 10 => ∃ q, a.tmps.getD 7 undef = .pointer (some ⟨q, 0, none⟩) ∧ StP U0 U1 wr y q w
  | _ => True
theorem SpAL.ext (wr : World) (y : Sn) (ec : Int) : ∀ (j : Nat) (a a' : Act) (w w' : World), SpAL U0 U1 wr y ec j a w → (∀ d ∈ (if j = 5 then [21] else if j = 6 then [15] else if j = 7 then [22] else [7]), a'.tmps.getD d undef = a.tmps.getD d undef) → TS U0 U1 wr y w w' → SpAL U0 U1 wr y ec j a' w' := by
  intro j a a' w w' h hd hT
  unfold SpAL at *
  split at h
  · obtain ⟨A, h1, h2⟩ := h; exact ⟨A, (hd 21 (by simp)).trans h1, hT.1 _ _ h2⟩
  · obtain ⟨A, h1, h2⟩ := h; exact ⟨A, (hd 15 (by simp)).trans h1, hT.1 _ _ h2⟩
  · obtain ⟨A, h1, h2⟩ := h; exact ⟨A, (hd 22 (by simp)).trans h1, hT.1 _ _ h2⟩
  · obtain ⟨q, cs, h1, h2, h3, h4, h5⟩ := h
    obtain ⟨cs', h6, h7, h8⟩ := hT.2.1 q cs h5 h4 h3
    exact ⟨q, cs', (hd 7 (by simp)).trans h1, h2, h8, h7, h6⟩
  · obtain ⟨q, h1, h2⟩ := h; exact ⟨q, (hd 7 (by simp)).trans h1, hT.2.2 _ h2⟩
  · trivial
/-- the slots that a fact looks at, those of a fact of one's own by the operation's number -/
def SV2S (vs : List (Option (Tmp × Value))) (f : Nat → List Tmp) : List (List Tmp) := vs.mapIdx fun j o => match o with
  | some (d, _) => [d]
  | none => f j
theorem RV.ext2S {vs : List (Option (Tmp × Value))} {f : Nat → List Tmp} {Sp : Nat → Act → World → Prop} {T : World → World → Prop}
    (hsp : ∀ j a a' w w', Sp j a w → (∀ d ∈ f j, a'.tmps.getD d undef = a.tmps.getD d undef) → T w w' → Sp j a' w') :
    ∀ j a a' w w', RV vs Sp j a w → (∀ s ∈ (SV2S vs f).getD j [], a'.tmps.getD s undef = a.tmps.getD s undef) → T w w' → RV vs Sp j a' w' := by
  intro j a a' w w' h hd hT
  unfold RV at *
  rw [List.getD_eq_getElem?_getD] at hd
  cases hj : vs[j]? with
  | none => trivial
  | some o =>
    rw [hj] at h
    cases o with
    | none => exact hsp j a a' w w' h (fun d hm => hd d (by simp [SV2S, hj]; exact hm)) hT
    | some p => exact (hd p.1 (by simp [SV2S, hj])).trans h

/-- what each operation of the region AL leaves -/
def vsAL (_ g o L cap i : Nat) (A : Array Value) (k a b ec : Int) : List (Option (Tmp × Value)) :=
  [some (16, .agg A), some (17, .slice (some ⟨g, o, none⟩) L cap), some (18, .int .i64 (i : Int)), some (19, .pointer (some ⟨g, o + i * 3, none⟩)), some (20, .agg (ra k a b)), none, none, none, some (23, .int .i64 ec), none, none, some (8, .int .i64 ec)]
/-- the frame while the region AL runs -/
def BaseAL (B g o L cap i : Nat) (Z : Value) (a : Act) : Prop := ∃ u : Nat → Value, a = ⟨#[Z, .slice (some ⟨g, o, none⟩) L cap, .pointer (some ⟨B, 0, none⟩), undef, .pointer (some ⟨B + 1, 0, none⟩), u 5, .int .i64 (i : Int), u 7, u 8, u 9, u 10, u 11, u 12, u 13, u 14, u 15, u 16, u 17, u 18, u 19, u 20, u 21, u 22, u 23, u 24, u 25, u 26, u 27, u 28, undef], []⟩
theorem BaseAL.of {B g o L cap i : Nat} {Z : Value} (arr : Array Value) (h : arr = #[Z, .slice (some ⟨g, o, none⟩) L cap, .pointer (some ⟨B, 0, none⟩), undef, .pointer (some ⟨B + 1, 0, none⟩), arr.getD 5 undef, .int .i64 (i : Int), arr.getD 7 undef, arr.getD 8 undef, arr.getD 9 undef, arr.getD 10 undef, arr.getD 11 undef, arr.getD 12 undef, arr.getD 13 undef, arr.getD 14 undef, arr.getD 15 undef, arr.getD 16 undef, arr.getD 17 undef, arr.getD 18 undef, arr.getD 19 undef, arr.getD 20 undef, arr.getD 21 undef, arr.getD 22 undef, arr.getD 23 undef, arr.getD 24 undef, arr.getD 25 undef, arr.getD 26 undef, arr.getD 27 undef, arr.getD 28 undef, undef]) : BaseAL B g o L cap i Z ⟨arr, []⟩ := ⟨fun i => arr.getD i undef, by rw [← h]⟩
theorem BaseAL.put16 {B g o L cap i : Nat} {Z : Value} (a : Act) (v : Value) (h : BaseAL B g o L cap i Z a) : BaseAL B g o L cap i Z (a.put (some 16) v) := by
  obtain ⟨u, rfl⟩ := h
  exact ⟨fun i => if i = 16 then v else u i, by kernel_rfl⟩
theorem BaseAL.put17 {B g o L cap i : Nat} {Z : Value} (a : Act) (v : Value) (h : BaseAL B g o L cap i Z a) : BaseAL B g o L cap i Z (a.put (some 17) v) := by
  obtain ⟨u, rfl⟩ := h
  exact ⟨fun i => if i = 17 then v else u i, by kernel_rfl⟩
theorem BaseAL.put18 {B g o L cap i : Nat} {Z : Value} (a : Act) (v : Value) (h : BaseAL B g o L cap i Z a) : BaseAL B g o L cap i Z (a.put (some 18) v) := by
  obtain ⟨u, rfl⟩ := h
  exact ⟨fun i => if i = 18 then v else u i, by kernel_rfl⟩
theorem BaseAL.put19 {B g o L cap i : Nat} {Z : Value} (a : Act) (v : Value) (h : BaseAL B g o L cap i Z a) : BaseAL B g o L cap i Z (a.put (some 19) v) := by
  obtain ⟨u, rfl⟩ := h
  exact ⟨fun i => if i = 19 then v else u i, by kernel_rfl⟩
theorem BaseAL.put20 {B g o L cap i : Nat} {Z : Value} (a : Act) (v : Value) (h : BaseAL B g o L cap i Z a) : BaseAL B g o L cap i Z (a.put (some 20) v) := by
  obtain ⟨u, rfl⟩ := h
  exact ⟨fun i => if i = 20 then v else u i, by kernel_rfl⟩
theorem BaseAL.put21 {B g o L cap i : Nat} {Z : Value} (a : Act) (v : Value) (h : BaseAL B g o L cap i Z a) : BaseAL B g o L cap i Z (a.put (some 21) v) := by
  obtain ⟨u, rfl⟩ := h
  exact ⟨fun i => if i = 21 then v else u i, by kernel_rfl⟩
theorem BaseAL.put15 {B g o L cap i : Nat} {Z : Value} (a : Act) (v : Value) (h : BaseAL B g o L cap i Z a) : BaseAL B g o L cap i Z (a.put (some 15) v) := by
  obtain ⟨u, rfl⟩ := h
  exact ⟨fun i => if i = 15 then v else u i, by kernel_rfl⟩
theorem BaseAL.put22 {B g o L cap i : Nat} {Z : Value} (a : Act) (v : Value) (h : BaseAL B g o L cap i Z a) : BaseAL B g o L cap i Z (a.put (some 22) v) := by
  obtain ⟨u, rfl⟩ := h
  exact ⟨fun i => if i = 22 then v else u i, by kernel_rfl⟩
theorem BaseAL.put23 {B g o L cap i : Nat} {Z : Value} (a : Act) (v : Value) (h : BaseAL B g o L cap i Z a) : BaseAL B g o L cap i Z (a.put (some 23) v) := by
  obtain ⟨u, rfl⟩ := h
  exact ⟨fun i => if i = 23 then v else u i, by kernel_rfl⟩
theorem BaseAL.put7 {B g o L cap i : Nat} {Z : Value} (a : Act) (v : Value) (h : BaseAL B g o L cap i Z a) : BaseAL B g o L cap i Z (a.put (some 7) v) := by
  obtain ⟨u, rfl⟩ := h
  exact ⟨fun i => if i = 7 then v else u i, by kernel_rfl⟩
theorem BaseAL.put8 {B g o L cap i : Nat} {Z : Value} (a : Act) (v : Value) (h : BaseAL B g o L cap i Z a) : BaseAL B g o L cap i Z (a.put (some 8) v) := by
  obtain ⟨u, rfl⟩ := h
  exact ⟨fun i => if i = 8 then v else u i, by kernel_rfl⟩

/-- what All answers -/
def AllT (U0 U1 : Nat) (x : Sn) (l : List Rc) (w : World) (e : Ending) (w' : World) : Prop := (∃ A, e = .returned (.tuple #[.agg A, .int .i64 (allE x l)]) ∧ SnG U0 U1 w' A (allX x l)) ∧ Below w.heap.size w w'

theorem allE_step (x : Sn) (l : List Rc) (i : Nat) (hi : i < l.length) : allE x (l.drop i) = (if HasR x l[i] then allE (chgX x l[i]) (l.drop (i + 1)) else 110) ∧ allX x (l.drop i) = (if HasR x l[i] then allX (chgX x l[i]) (l.drop (i + 1)) else x) := by
  rw [List.drop_eq_getElem_cons hi]
  exact ⟨rfl, rfl⟩
/-- the boxes of All -/
def AlW (w0 : World) (A : Array Value) (w : World) : Prop := (Blk w w0.heap.size A 32 ∧ Blk w (w0.heap.size + 1) nil4 32 ∧ w0.heap.size + 2 ≤ w.heap.size) ∧ Below w0.heap.size w0 w
theorem AlW.call {w0 w w' : World} {A : Array Value} (h : AlW w0 A w) (hb : Below w.heap.size w w') : AlW w0 A w' :=
  ⟨⟨h.1.1.after hb, h.1.2.1.after hb, Nat.le_trans h.1.2.2 hb.size⟩, h.2.trans (hb.mono h.2.size)⟩
theorem AlW.new (w0 : World) (A : Array Value) : AlW w0 A ((w0.alloc (.cells A 32)).alloc (.cells nil4 32)) := by
  have b1 : Blk ((w0.alloc (.cells A 32)).alloc (.cells nil4 32)) (w0.heap.size + 1) nil4 32 := by
    have h := Blk.new (w0.alloc (.cells A 32)) nil4 32
    rwa [World.size_alloc] at h
  exact ⟨⟨(Blk.new _ _ _).alloc _, b1, by simp⟩, ((Below.refl _ _).alloc (Nat.le_refl _) _).alloc (by simp) _⟩
theorem al_end {w0 w : World} {A : Array Value} {x y : Sn} {l : List Rc} {c : Int} (h : AlW w0 A w) (hs : SnG U0 U1 w A y) (hg : allE x l = c ∧ allX x l = y) :
    AllT U0 U1 x l w0 (.returned (.tuple #[.agg A, .int .i64 c])) (w.setRow (w0.heap.size + 1) A) := by
  rw [← hg.1]
  refine ⟨⟨A, rfl, ?_⟩, below_put (by omega) _ h.2⟩
  rw [hg.2]
  exact sn_put_row h.1.2.1 allSl_nil4 _ hs

set_option maxHeartbeats 4000000 in
theorem rst_all (w : World) (A : Array Value) (x : Sn) (oa : Option Addr) (cap : Nat) (l : List Rc) (hU : U1 ≤ w.heap.size) (hA : SnG U0 U1 w A x) (hB : CntB x) (hz : x.f.length ≤ 1000000 ∧ x.c.length ≤ 1000000 ∧ x.s.length ≤ 1000000 ∧ x.t.length ≤ 1000000) (hl : l.length ≤ 1000000) (hr : XsAt w oa l) :
    Calls Try.prog 15 #[.agg A, .slice oa l.length cap] w (AllT U0 U1 x l w) := by
  obtain ⟨w2, hw2⟩ : ∃ w2, (w.alloc (.cells A 32)).alloc (.cells #[.slice none 0 0, .slice none 0 0, .slice none 0 0, .slice none 0 0] 32) = w2 := ⟨_, rfl⟩
  have HW2 : Hid (AlW w A w2) := by rw [← hw2]; exact AlW.new _ _
  have HS2 : Hid (SnG U0 U1 w2 A x) := hA.below HW2.out.2
  obtain ⟨L, hL⟩ : ∃ L, l.length = L := ⟨_, rfl⟩
  have HU1 := Lib.hid hU
  clear hU
  have HLN := Lib.hid hL
  have HR := Lib.hid hr
  have HZ := Lib.hid hz
  have HCB := Lib.hid hB
  rw [hL] at hl ⊢
  clear hA hB hz hr hL
  go_enter Try.func15, Try.ntmps15
  go_wp2_with fail
  clear hw2
  go_loopw [6] (fun iv wr => ∃ (i : Nat) (z : Sn) (D : Array Value), i ≤ L ∧ iv = .int .i64 i ∧ Hid (AlW w D wr) ∧ Hid (SnG U0 U1 wr D z) ∧ Hid (CntB z ∧ LenE z x) ∧ Hid (allE x l = allE z (l.drop i) ∧ allX x l = allX z (l.drop i))) (fun iv _ => L + 1 - (intOf iv).toNat)
  case atStart => exact ⟨0, x, A, Nat.zero_le _, rfl, HW2.out, HS2.out, ⟨HCB.out, rfl, rfl, rfl, rfl⟩, rfl, rfl⟩
  case round =>
    obtain ⟨i, z, D, hi, rfl, HAL, HSN, HCZ, HEQ⟩ := hrel
    by_cases hlt : i < L
    · have hltz : (i : Int) < (L : Int) := by omega
      have hil : i < l.length := by have := HLN.out; omega
      obtain ⟨g, o, rfl, hg, hrow⟩ := HR.out (by intro h0; rw [h0] at hil; exact absurd hil (Nat.not_lt_zero _))
      have r1 := hrow i hil
      have hst := allE_step z l i hil
      obtain ⟨⟨k, a, b⟩, hrc⟩ : ∃ r, l[i] = r := ⟨_, rfl⟩
      rw [hrc] at r1 hst
      have HST := Lib.hid hst
      have HRC : Hid (∀ w', Below wr.heap.size wr w' → w'.rangeAt g (o + i * 3) (ra k a b).toList) := fun w' hb j v hj => by
        have hb2 := HAL.out.2.trans (hb.mono HAL.out.2.size)
        rw [World.cell?_of_block (w := w) (hb2.block g hg)]
        exact r1 j v hj
      obtain ⟨ec, hec⟩ : ∃ ec, appE z ⟨k, a, b⟩ = ec := ⟨_, rfl⟩
      obtain ⟨y, hy⟩ : ∃ y, appX z ⟨k, a, b⟩ = y := ⟨_, rfl⟩
      have HLZ : Hid (z.f.length ≤ 1000000 ∧ z.c.length ≤ 1000000 ∧ z.s.length ≤ 1000000 ∧ z.t.length ≤ 1000000) := by
        obtain ⟨h1, h2, h3, h4⟩ := HCZ.out.2
        have := HZ.out
        show _ ∧ _ ∧ _ ∧ _
        omega
      have HAP : Hid (∀ w', Below wr.heap.size wr w' → Calls Try.prog 10 #[.agg D, .agg (ra k a b)] w' fun e w2 => (∃ A2, e = .returned (.tuple #[.agg A2, .int .i64 ec]) ∧ SnG U0 U1 w2 A2 y) ∧ Below w'.heap.size w' w2) := fun w' hb => by
        have h := rst_apply w' D z k a b (Nat.le_trans HU1.out (Nat.le_trans HAL.out.2.size hb.size)) (HSN.out.below hb) HCZ.out.1 HLZ.out
        unfold AppT at h
        rw [hec, hy] at h
        exact h
      have HAB : Hid (∀ w', Below wr.heap.size wr w' → Blk w' w.heap.size D 32) := fun w' hb => HAL.out.1.1.after hb
      have HSA : Hid ((Try.prog.info? 32).map (·.size) = some D.size) := snAt_sizeT HSN.out
      have HIN : Hid ((i : Int) < (L : Int) ∧ (0 : Int) ≤ (i : Int)) := ⟨hltz, by omega⟩
      have HEC := Lib.hid hec
      have HY := Lib.hid hy
      clear r1 hrow hst hrc hec hy hg hil
      go_wp2_with fail
      rename_i K0 hK0
      refine wp_region_list3 (SV2S (vsAL w.heap.size g o L cap i D k a b ec) (fun j => if j = 5 then [21] else if j = 6 then [15] else if j = 7 then [22] else [7])) (BaseAL w.heap.size g o L cap i (Value.agg (A))) (Below wr.heap.size wr) (TS U0 U1 wr y) (RV (vsAL w.heap.size g o L cap i D k a b ec) (SpAL U0 U1 wr y ec)) rfl (by kernel_rfl) (RV.ext2S (f := fun j => if j = 5 then [21] else if j = 6 then [15] else if j = 7 then [22] else [7]) (SpAL.ext wr y ec)) ?_ ((Below.refl _ _).drew) (BaseAL.of _ (by kernel_rfl)) ?_ ?_
      · exact ⟨BaseAL.put16, BaseAL.put17, BaseAL.put18, BaseAL.put19, BaseAL.put20, BaseAL.put21, BaseAL.put15, BaseAL.put22, BaseAL.put23, BaseAL.put7, fun a v h => h, BaseAL.put8, trivial⟩
      · refine ⟨?_, ?_, ?_, ?_, ?_, ?_, ?_, ?_, ?_, ?_, ?_, ?_, trivial⟩
        all_goals
          intro a w' hC hB hR
          obtain ⟨u, rfl⟩ := hB
          have HC := Lib.hid hC
          clear hC
          clear hK0
        · clear hR
          refine if_yes (by kernel_rfl) ?_
          exact wp_load_row 32 (.tmp 2) rfl w.heap.size rfl 32 D (0, 0) _ (HAB.out _ HC.out) Try.underlying32 rfl HSA.out ⟨.agg D, rfl, HC.out, TS.refl _ _ _, rfl⟩
        · clear hR
          refine if_yes (by kernel_rfl) ?_
          unfold Oper.wp
          go_simp
          exact ⟨.slice (some ⟨g, o, none⟩) L cap, rfl, HC.out, TS.refl _ _ _, rfl⟩
        · clear hR
          refine if_yes (by kernel_rfl) ?_
          unfold Oper.wp
          go_simp
          exact ⟨.int .i64 (i : Int), rfl, HC.out, TS.refl _ _ _, rfl⟩
        · have h17 : u 17 = .slice (some ⟨g, o, none⟩) L cap := hR ⟨1, .data⟩ (by simp) rfl
          have h18 : u 18 = .int .i64 (i : Int) := hR ⟨2, .data⟩ (by simp) rfl
          have hin := HIN.out
          clear hR
          simp only [h17, h18]
          clear h17 h18
          refine if_yes (by kernel_rfl) ?_
          unfold Oper.wp
          go_simp
          exact ⟨.pointer (some ⟨g, o + i * 3, none⟩), rfl, HC.out, TS.refl _ _ _, rfl⟩
        · have h19 : u 19 = .pointer (some ⟨g, o + i * 3, none⟩) := hR ⟨3, .data⟩ (by simp) rfl
          clear hR
          simp only [h19]
          clear h19
          refine if_yes (by kernel_rfl) ?_
          exact wp_load_mid 37 (.tmp 19) rfl g (o + i * 3) rfl (ra k a b).toList _ (HRC.out _ HC.out) Try.underlying37 rfl size_rec ⟨.agg (ra k a b), rfl, HC.out, TS.refl _ _ _, rfl⟩
        · have h16 : u 16 = .agg D := hR ⟨0, .data⟩ (by simp) rfl
          have h20 : u 20 = .agg (ra k a b) := hR ⟨4, .data⟩ (by simp) rfl
          clear hR
          simp only [h16, h20]
          clear h16 h20
          refine if_yes (by kernel_rfl) ?_
          unfold Oper.wp
          go_simp
          refine (HAP.out w' HC.out).mono ?_
          rintro e w2 ⟨⟨A2, rfl, h2⟩, hb2⟩
          exact ⟨.tuple #[.agg A2, .int .i64 ec], rfl, HC.out.trans (hb2.mono HC.out.size), TS.call HC.out hb2, ⟨A2, rfl, h2⟩⟩
        · obtain ⟨A2, h21, hs2⟩ := hR ⟨5, .data⟩ (by simp) rfl
          have h21 : u 21 = .tuple #[.agg A2, .int .i64 ec] := h21
          clear hR
          refine if_yes (by kernel_rfl) ?_
          simp only [h21]
          unfold Oper.wp
          go_simp
          exact ⟨.tuple #[.agg A2, .int .i64 ec], rfl, HC.out, TS.refl _ _ _, ⟨A2, rfl, hs2⟩⟩
        · obtain ⟨A2, h15, hs2⟩ := hR ⟨6, .data⟩ (by simp) rfl
          have h15 : u 15 = .tuple #[.agg A2, .int .i64 ec] := h15
          clear hR
          refine if_yes (by kernel_rfl) ?_
          simp only [h15]
          unfold Oper.wp
          go_simp
          exact ⟨.agg A2, rfl, HC.out, TS.refl _ _ _, ⟨A2, rfl, hs2⟩⟩
        · obtain ⟨A2, h15, hs2⟩ := hR ⟨6, .data⟩ (by simp) rfl
          have h15 : u 15 = .tuple #[.agg A2, .int .i64 ec] := h15
          clear hR
          refine if_yes (by kernel_rfl) ?_
          simp only [h15]
          unfold Oper.wp
          go_simp
          exact ⟨.int .i64 ec, rfl, HC.out, TS.refl _ _ _, rfl⟩
        · clear hR
          refine if_yes (by kernel_rfl) ?_
          unfold Oper.wp
          go_simp
          exact ⟨.pointer (some ⟨w'.heap.size, 0, none⟩), rfl, HC.out.alloc HC.out.size _, TS.call HC.out ((Below.refl _ _).alloc (Nat.le_refl _) _), ⟨w'.heap.size, nil4, rfl, HC.out.size, Blk.new w' nil4 32, rfl, allSl_nil4⟩⟩
        · obtain ⟨A2, h22, hs2⟩ := hR ⟨7, .data⟩ (by simp) rfl
          have h22 : u 22 = .agg A2 := h22
          obtain ⟨q, cs, h7, hq, hqk, hcs, hall⟩ := hR ⟨9, .data⟩ (by simp) rfl
          have h7 : u 7 = .pointer (some ⟨q, 0, none⟩) := h7
          clear hR
          refine if_yes (by kernel_rfl) ?_
          simp only [h22, h7]
          exact wp_store_row 32 (.tmp 7) (.tmp 22) rfl q A2 rfl rfl 32 cs hqk (snAt_sizeT hs2) (hcs.trans (snAt_four4 hs2)) (snAt_oneT hs2) ⟨undef, rfl, below_put hq _ HC.out, TS.store HC.out hq hqk hall hs2, ⟨q, rfl, StP.mk HC.out hq hqk hall hs2⟩⟩
        · have h23 : u 23 = .int .i64 ec := hR ⟨8, .data⟩ (by simp) rfl
          clear hR
          simp only [h23]
          clear h23
          refine if_yes (by kernel_rfl) ?_
          unfold Oper.wp
          go_simp
          exact ⟨.int .i64 ec, rfl, HC.out, TS.refl _ _ _, rfl⟩
      · intro aa w5 hC hB hR
        obtain ⟨q, h7, hq⟩ := hR 10 (by decide)
        have h8 : aa.tmps.getD 8 undef = .int .i64 ec := hR 11 (by decide)
        clear hR
        obtain ⟨u, rfl⟩ := hB
        have h7 : u 7 = .pointer (some ⟨q, 0, none⟩) := h7
        have h8 : u 8 = .int .i64 ec := h8
        simp only [h7, h8]
        obtain ⟨hqw, _, A2, hqk, hs2⟩ := hq
        have HAL5 := Lib.hid (HAL.out.call hC)
        have HSN5 := Lib.hid (HSN.out.below hC)
        have HQ := Lib.hid hqk
        have HS2' := Lib.hid hs2
        clear h7 h8 hC hqk hs2 HAB HAP HRC HAL HSN hqw
        by_cases hh : HasR z ⟨k, a, b⟩
        · obtain rfl : ec = 0 := HEC.out.symm.trans (if_pos hh)
          have hyc : y = chgX z ⟨k, a, b⟩ := HY.out.symm.trans (if_pos hh)
          have HN : Hid (CntB y ∧ LenE y x) := by
            rw [hyc]
            obtain ⟨e1, e2, e3, e4⟩ := LenE.chg z ⟨k, a, b⟩
            obtain ⟨f1, f2, f3, f4⟩ := HCZ.out.2
            exact ⟨HCZ.out.1.chg _, e1.trans f1, e2.trans f2, e3.trans f3, e4.trans f4⟩
          have HEQ2 : Hid (allE x l = allE y (l.drop (i + 1)) ∧ allX x l = allX y (l.drop (i + 1))) := by
            refine ⟨HEQ.out.1.trans (HST.out.1.trans ?_), HEQ.out.2.trans (HST.out.2.trans ?_)⟩
            · rw [if_pos hh, hyc]
            · rw [if_pos hh, hyc]
          have HSZ2 : Hid ((Try.prog.info? 32).map (·.size) = some A2.size) := snAt_sizeT HS2'.out
          have HSZ4 : Hid (D.size = A2.size) := (snAt_four4 HSN5.out).symm.trans (snAt_four4 HS2'.out)
          have HN6 : Hid (AlW w A2 (w5.setRow w.heap.size A2)) := ⟨⟨HAL5.out.1.1.put _, HAL5.out.1.2.1.put_other (by omega) _, by rw [size_setRow]; exact HAL5.out.1.2.2⟩, below_put (Nat.le_refl _) _ HAL5.out.2⟩
          have HS6 : Hid (SnG U0 U1 (w5.setRow w.heap.size A2) A2 y) := sn_put_row HAL5.out.1.1 (snAt_all HSN5.out) _ HS2'.out
          clear hh hyc HEC HY HST HEQ
          go_wp2_with (first
            | (refine wpList_load_row rfl 32 (.tmp 7) rfl q rfl 32 A2 (0, 0) _ HQ.out Try.underlying32 rfl HSZ2.out ?_)
            | (refine wpList_store_row rfl 32 (.tmp 2) (.tmp 28) rfl w.heap.size A2 rfl rfl 32 D HAL5.out.1.1 HSZ2.out HSZ4.out (snAt_oneT HS2'.out) ?_))
          refine ⟨⟨i + 1, y, A2, by omega, by go_num, HN6, HS6, HN, HEQ2⟩, ?_⟩
          simp [intOf]; omega
        · obtain rfl : ec = 110 := HEC.out.symm.trans (if_neg hh)
          have HG : Hid (allE x l = 110 ∧ allX x l = z) := ⟨HEQ.out.1.trans (HST.out.1.trans (if_neg hh)), HEQ.out.2.trans (HST.out.2.trans (if_neg hh))⟩
          have HSZ2 : Hid ((Try.prog.info? 32).map (·.size) = some D.size) := snAt_sizeT HSN5.out
          have HSZ4 : Hid (nil4.size = D.size) := snAt_four4 HSN5.out
          clear hh HEC HY HST HEQ
          go_wp2_with (first
            | (refine wpList_load_row rfl 32 (.tmp 2) rfl w.heap.size rfl 32 D (0, 0) _ HAL5.out.1.1 Try.underlying32 rfl HSZ2.out ?_)
            | (refine wpList_store_row rfl 32 (.tmp 4) (.tmp 26) rfl (w.heap.size + 1) D rfl rfl 32 nil4 HAL5.out.1.2.1 HSZ2.out HSZ4.out (snAt_oneT HSN5.out) ?_))
          refine bodyPost_ret (results_cell_tmp rfl _ _ (w.heap.size + 1) 32 D _ rfl (HAL5.out.1.2.1.put _) Try.underlying32 rfl HSZ2.out) rfl ?_
          exact al_end HAL5.out HSN5.out HG.out
    · obtain rfl : i = L := by omega
      have hltz : ¬ (i : Int) < (i : Int) := by omega
      have HG : Hid (allE x l = 0 ∧ allX x l = z) := by
        have h := HEQ.out
        rw [List.drop_eq_nil_of_le (by rw [HLN.out]; exact Nat.le_refl _)] at h
        exact h
      have HSZ2 : Hid ((Try.prog.info? 32).map (·.size) = some D.size) := snAt_sizeT HSN.out
      have HSZ4 : Hid (nil4.size = D.size) := snAt_four4 HSN.out
      clear hlt
      go_wp2_with (first
        | (refine wpList_load_row rfl 32 (.tmp 2) rfl w.heap.size rfl 32 D (0, 0) _ HAL.out.1.1 Try.underlying32 rfl HSZ2.out ?_)
        | (refine wpList_store_row rfl 32 (.tmp 4) (.tmp 29) rfl (w.heap.size + 1) D rfl rfl 32 nil4 HAL.out.1.2.1 HSZ2.out HSZ4.out (snAt_oneT HSN.out) ?_))
      refine bodyPost_ret (results_cell_tmp rfl _ _ (w.heap.size + 1) 32 D _ rfl (HAL.out.1.2.1.put _) Try.underlying32 rfl HSZ2.out) rfl ?_
      exact al_end HAL.out HSN.out HG.out

end Go.Proofs.Ytgnjknboahcmgaa
