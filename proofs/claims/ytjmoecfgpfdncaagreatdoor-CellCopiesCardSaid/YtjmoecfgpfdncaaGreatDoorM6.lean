/- Texts of one claim, merged: CeRB, CeRF, CeS, CeN, CeA, BitsZ, Shelf. -/
import Derived.Test.YtjmoecfgpfdncaaGreatDoorM5
import Derived.Test.YtjmoecfgpfdncaaGreatDoorM2
import Derived.Lib.ConvBytes
import Derived.Shelf.Strings.Builder2
import Derived.Shelf.Strings.BuilderK
import Derived.Shelf.Strings.Repeat
import Derived.Test.YtjmoecfgpfdncaaGreatDoorChecked

/- The reference of layer 8, walked: Erase, where it is cut, or fails. -/
namespace Go.Proofs.YtjmoecfgpfdncaaGreatDoor
set_option maxRecDepth 100000
open Go.RowKit

set_option maxHeartbeats 2000000 in
theorem rce_erase_hurt (s : St) (g c h d : Nat) (x k a b : Int) (w : World) (hw : WfSt s) (hr : RAt w s g c h d) (hb : s.bad = false) (hk : hurtsB k = true) (hn1 : s.slc < 1000000000) (hn2 : s.tlc < 1000000000) :
    Calls Tryz.prog 17 #[.agg (cv s g c h d), .agg (fv x k a b)] w (PairT (eraseSt s k a b) (eraseC s k) g h w) := by
  have he : eraseSt s k a b = endSt (slcSt (ruinTo (moreSt s) (moreSt s) a b k (3 * s.L))) k ∧ eraseC s k = endC k := by
    unfold eraseSt eraseC
    rw [if_neg (by rw [hb]; simp), if_pos hk, if_neg (by rw [hb]; simp)]
    exact ⟨rfl, rfl⟩
  rw [he.1, he.2]
  have HWM := Lib.hid (moreSt_wf hw hn1 hn2)
  obtain ⟨L, Y, mode, done, bad, torn, slc, tlc, ps, hs⟩ := s
  simp only at hb hn1 hn2
  subst hb
  have HWF := Lib.hid hw
  have HR := Lib.hid hr
  have HK := Lib.hid hk
  clear hw hr he hk
  by_cases hmo : mode = 2
  · have hmb : ((mode : Int) == 2) = true := by simp [hmo]
    have HMO := Lib.hid hmo
    clear hmo
    go_enter Tryz.func17, Tryz.ntmps17
    unfold cv fv
    go_wp2_with (first
      | (refine wpList_load_row rfl 38 (.tmp 3) rfl (w.heap.size + 1) rfl 38 (fv x k a b) (0, 0) _ (blk_mid w _ _ _ _) Tryz.underlying38 rfl size_fault ?_))
    refine (rce_hurts x k a b _).mono ?_
    rintro e w2 ⟨rfl, hb2⟩
    rw [HK.out]
    have hcm : CM w ⟨L, Y, mode, done, false, torn, slc, tlc, ps, hs⟩ g c h d x k a b w2 := by
      refine ⟨?_, (blk_mid w _ _ _ _).after hb2, (blk_third w _ _ _ _).after hb2, ?_, (below_3 w _ _ _).trans (hb2.mono (below_3 w _ _ _).size), by have := hb2.size; simp at this; omega⟩
      · rw [more_two _ g c h d HMO.out]
        exact (((Blk.new w _ _).alloc _).alloc _).after hb2
      · exact RAt.same (HR.out.after HWF.out ((below_3 w _ _ _).trans (hb2.mono (below_3 w _ _ _).size))) (more_same _).2.2.1 (more_same _).2.2.2.1
    have HCM := Lib.hid hcm
    clear hb2 hcm
    have hwm := HWM.out
    obtain ⟨m, hm⟩ : ∃ m, moreSt ⟨L, Y, mode, done, false, torn, slc, tlc, ps, hs⟩ = m := ⟨_, rfl⟩
    have hml : m.L = L := by rw [← hm]; exact (more_same _).1
    have c1 := HCM.out.cell
    have c2 := HCM.out.how
    have c3 := HCM.out.ans
    have c4 := HCM.out.rd
    have c5 := HCM.out.low
    have c6 := HCM.out.top
    rw [hm] at hwm c1 c4
    have hl1 := hwm.l1
    have hl64 := hwm.l64
    rw [hml] at hl1 hl64
    have hlt := HR.out.lt HWF.out
    have HX : Hid (∀ wr, Below w2.heap.size w2 wr → Blk wr w.heap.size (cv m g c h d) 30 ∧ Blk wr (w.heap.size + 1) (fv x k a b) 38 ∧ Blk wr (w.heap.size + 2) zv 30 ∧ RAt wr m g c h d) :=
      fun wr hb => ⟨c1.after hb, c2.after hb, c3.after hb, c4.after hwm hb⟩
    obtain ⟨w4, hw4⟩ : ∃ w4, (w2.alloc (.cells zv 30)).setRow w2.heap.size (cv m g c h d) = w4 := ⟨_, rfl⟩
    have n4 : Blk w4 w2.heap.size (cv m g c h d) 30 := by rw [← hw4]; exact (Blk.new w2 zv _).put _
    have l4 : Below w2.heap.size w2 w4 := by rw [← hw4]; exact below_put (Nat.le_refl _) _ ((Below.refl _ _).alloc (Nat.le_refl _) _)
    have t4 : w2.heap.size < w4.heap.size := n4.lt
    have r4 := (HX.out w4 l4).2.2.2
    have N2 := Lib.hid (Blk.new w2 zv 30)
    have HW4 := Lib.hid hw4
    have N4 := Lib.hid n4
    have L4 := Lib.hid l4
    have T4 := Lib.hid t4
    have R4 := Lib.hid r4
    have C1 := Lib.hid c1
    have HM := Lib.hid hm
    have HML := Lib.hid hml
    have HWM2 := Lib.hid hwm
    have LOW := Lib.hid c5
    have TOP := Lib.hid c6
    have HLT := Lib.hid hlt
    clear hwm hm hml c1 c2 c3 c4 c5 c6 hw4 n4 l4 t4 r4 HCM hlt
    go_wp2_with (first
      | (refine wpList_load_row rfl 30 (.tmp 2) rfl w.heap.size rfl 30 (cv m g c h d) (0, 0) _ C1.out Tryz.underlying30 rfl size_cell ?_)
      | (refine wpList_store_row rfl 30 (.tmp 8) (.tmp 44) rfl w2.heap.size (cv m g c h d) rfl rfl 30 zv N2.out size_cell rfl (cv_one _ _ _ _ _) ?_; change wpList _ _ _ _ _ ((w2.alloc (.cells zv 30)).setRow w2.heap.size (cv m g c h d)); rw [HW4.out]))
    go_loopw [9] (fun iv wr => ∃ (n g' c' h' d' : Nat), n ≤ 3 * L ∧ iv = .int .i64 n ∧ Blk wr w2.heap.size (cv (ruinTo m m a b k n) g' c' h' d') 30 ∧ RAt wr (ruinTo m m a b k n) g' c' h' d' ∧ ((g' = g ∧ h' = h) ∨ (w2.heap.size < g' ∧ w2.heap.size < h')) ∧ Below w2.heap.size w2 wr ∧ w2.heap.size < wr.heap.size) (fun iv _ => 3 * L - (intOf iv).toNat)
    case atStart => exact ⟨0, g, c, h, d, Nat.zero_le _, rfl, N4.out, R4.out, Or.inl ⟨rfl, rfl⟩, L4.out, T4.out⟩
    case round =>
      obtain ⟨n, g', c', h', d', hn, rfl, hkn, hkr, hgh, hkl, hkt⟩ := hrel
      obtain ⟨cur, hcur⟩ : ∃ cur, ruinTo m m a b k n = cur := ⟨_, rfl⟩
      have hcwf : WfSt cur := by rw [← hcur]; exact ruinTo_wf HWM2.out HWM2.out a b k n
      rw [hcur] at hkn hkr
      have hx := HX.out wr hkl
      have hc0 : wr.cell? ⟨w.heap.size, 0, none⟩ = some (.int .i64 L) := by rw [← HML.out]; exact hx.1.cell 0
      have hw3 : IntKind.i64.wrap (3 * (L : Int)) = 3 * (L : Int) := by rw [IntKind.wrap_i64]; omega
      by_cases hlt : n < 3 * L
      · have hlt' : (n : Int) < 3 * (L : Int) := by omega
        have CN : Hid (ruinTo m m a b k (n + 1) = putSt cur n (ruinT m a b k n) true) := by show ruinTo m m a b k (n + 1) = _; rw [← hcur]; rfl
        have HX1 := Lib.hid hx.1
        have HX2 := Lib.hid hx.2.1
        have HAT := Lib.hid (rce_at m g c h d n wr HWM2.out hx.2.2.2 (by rw [HML.out]; exact hlt))
        have hsz := atT_size HWM2.out n
        have CWF := Lib.hid hcwf
        have KN0 := Lib.hid hkn
        have KR0 := Lib.hid hkr
        have KL0 := Lib.hid hkl
        have KT0 := Lib.hid hkt
        clear hx hcwf hkn hkr hkl hgh hcur hkt
        go_wp2_with (first
          | (refine wpList_load_row rfl 30 (.tmp 2) rfl w.heap.size rfl 30 (cv m g c h d) (0, 0) _ HX1.out Tryz.underlying30 rfl size_cell ?_))
        refine HAT.out.mono ?_
        rintro e w5 ⟨rfl, hb5⟩
        have KN1 := Lib.hid (KN0.out.after hb5)
        have KR1 := Lib.hid (KR0.out.after CWF.out hb5)
        have KL1 := Lib.hid (KL0.out.trans (hb5.mono KL0.out.size))
        have KT1 : Hid (w2.heap.size < w5.heap.size) := Nat.lt_of_lt_of_le KT0.out hb5.size
        have HX3 := Lib.hid (HX2.out.after hb5)
        clear hb5 HX1 HX2 KN0 KR0 KL0 KT0 HAT
        obtain ⟨t, ht⟩ : ∃ t, atT m n = t := ⟨_, rfl⟩
        have HAH : Hid (atH m n = true → ruinT m a b k n = t) := fun h => by unfold ruinT; rw [if_pos h, ht]
        have HAN : Hid (atH m n = false → ruinT m a b k n = pageT t k a b) := fun h => by unfold ruinT; rw [if_neg (by rw [h]; simp), ht]
        rw [ht] at hsz ⊢
        obtain ⟨old, hold⟩ : ∃ old, atH m n = old := ⟨_, rfl⟩
        rw [hold] at HAH HAN ⊢
        clear ht hold
        cases old with
        | true =>
          have HRU := Lib.hid (HAH.out rfl)
          rw [HRU.out] at CN
          clear HAH HAN
          go_wp2_with (first
            | (refine wpList_load_row rfl 30 (.tmp 8) rfl w2.heap.size rfl 30 (cv cur g' c' h' d') (0, 0) _ KN1.out Tryz.underlying30 rfl size_cell ?_))
          refine (rce_put cur g' c' h' d' n t true _ CWF.out KR1.out).mono ?_
          rintro e w7 ⟨⟨g2, c2, h2, d2, rfl, hr2, hg2, hh2⟩, hb7⟩
          have KN7 := Lib.hid (KN1.out.after hb7)
          have KL7 := Lib.hid (KL1.out.trans (hb7.mono KL1.out.size))
          have hlt7 := hr2.lt (putSt_wf CWF.out n true hsz)
          have KT7 : Hid (w2.heap.size < w5.heap.size) := KT1.out
          have HR2 := Lib.hid hr2
          have HG2 : Hid (w2.heap.size < g2 ∧ w2.heap.size < h2) := ⟨by have := KT1.out; omega, by have := KT1.out; omega⟩
          clear hb7 hr2 hg2 hh2
          go_wp2_with (refine wpList_store_row rfl 30 (.tmp 8) (.tmp 66) rfl w2.heap.size (cv (putSt cur n t true) g2 c2 h2 d2) rfl rfl 30 (cv cur g' c' h' d') KN7.out size_cell rfl (cv_one _ _ _ _ _) ?_)
          go_roundw
          case rel =>
            have hG2 := HG2.out
            refine ⟨n + 1, g2, c2, h2, d2, by omega, by go_num, ?_, ?_, Or.inr hG2, below_put (Nat.le_refl _) _ KL7.out, ?_⟩
            · rw [CN.out]; exact KN7.out.put _
            · rw [CN.out]; exact HR2.out.keep (setRow_heap_ne _ _ _ _ (by omega)) (setRow_heap_ne _ _ _ _ (by omega))
            · rw [size_setRow]; have := KN7.out.lt; omega
          case measure => simp [intOf]; omega
        | false =>
          have HRU := Lib.hid (HAN.out rfl)
          rw [HRU.out] at CN
          clear HAH HAN
          go_wp2_with (first
            | (refine wpList_load_row rfl 38 (.tmp 3) rfl (w.heap.size + 1) rfl 38 (fv x k a b) (0, 0) _ HX3.out Tryz.underlying38 rfl size_fault ?_))
          refine (rce_page t x k a b _ (by omega)).mono ?_
          rintro e w6 ⟨rfl, hb6⟩
          have KN2 := Lib.hid (KN1.out.after hb6)
          have KR2 := Lib.hid (KR1.out.after CWF.out hb6)
          have KL2 := Lib.hid (KL1.out.trans (hb6.mono KL1.out.size))
          have KT2 : Hid (w2.heap.size < w6.heap.size) := Nat.lt_of_lt_of_le KT1.out hb6.size
          have hpsz : (pageT t k a b).size ≤ 400 := by rw [pageT_size]; exact hsz
          clear hb6 KN1 KR1 KL1 KT1
          go_wp2_with (first
            | (refine wpList_load_row rfl 30 (.tmp 8) rfl w2.heap.size rfl 30 (cv cur g' c' h' d') (0, 0) _ KN2.out Tryz.underlying30 rfl size_cell ?_))
          refine (rce_put cur g' c' h' d' n (pageT t k a b) true _ CWF.out KR2.out).mono ?_
          rintro e w7 ⟨⟨g2, c2, h2, d2, rfl, hr2, hg2, hh2⟩, hb7⟩
          have KN7 := Lib.hid (KN2.out.after hb7)
          have KL7 := Lib.hid (KL2.out.trans (hb7.mono KL2.out.size))
          have hlt7 := hr2.lt (putSt_wf CWF.out n true hpsz)
          have KT7 : Hid (w2.heap.size < w6.heap.size) := KT2.out
          have HR2 := Lib.hid hr2
          have HG2 : Hid (w2.heap.size < g2 ∧ w2.heap.size < h2) := ⟨by have := KT2.out; omega, by have := KT2.out; omega⟩
          clear hb7 hr2 hg2 hh2
          go_wp2_with (refine wpList_store_row rfl 30 (.tmp 8) (.tmp 66) rfl w2.heap.size (cv (putSt cur n (pageT t k a b) true) g2 c2 h2 d2) rfl rfl 30 (cv cur g' c' h' d') KN7.out size_cell rfl (cv_one _ _ _ _ _) ?_)
          go_roundw
          case rel =>
            have hG2 := HG2.out
            refine ⟨n + 1, g2, c2, h2, d2, by omega, by go_num, ?_, ?_, Or.inr hG2, below_put (Nat.le_refl _) _ KL7.out, ?_⟩
            · rw [CN.out]; exact KN7.out.put _
            · rw [CN.out]; exact HR2.out.keep (setRow_heap_ne _ _ _ _ (by omega)) (setRow_heap_ne _ _ _ _ (by omega))
            · rw [size_setRow]; have := KN7.out.lt; omega
          case measure => simp [intOf]; omega
      · obtain rfl : n = 3 * L := by omega
        have hlt' : ¬ ((3 * L : Nat) : Int) < 3 * (L : Int) := by omega
        have hc2 : wr.cell? ⟨w2.heap.size, 2, none⟩ = some (.int .i64 cur.mode) := hkn.cell 2
        have hf2 := hkn.free 2
        have HCUR : Hid (ruinTo (moreSt ⟨L, Y, mode, done, false, torn, slc, tlc, ps, hs⟩) (moreSt ⟨L, Y, mode, done, false, torn, slc, tlc, ps, hs⟩) a b k (3 * L) = cur) := by show ruinTo _ _ _ _ _ _ = _; rw [HM.out]; exact hcur
        clear hcur
        have hne : g' ≠ w2.heap.size ∧ h' ≠ w2.heap.size := by
          have h3 := HLT.out
          have h4 := TOP.out
          rcases hgh with h1 | h1 <;> omega
        by_cases hz : cur.mode = 0
        · have hzz : True := trivial
          have hz2 : (cur.mode == 0) = true := by simp [hz]
          have hsl : slcSt cur = { cur with mode := 1 } := if_pos hz
          obtain ⟨wz, hwz⟩ : ∃ wz, wr.setCell ⟨w2.heap.size, 2, none⟩ (.int .i64 1) = wz := ⟨_, rfl⟩
          have kz : Blk wz w2.heap.size (cv (slcSt cur) g' c' h' d') 30 := by rw [← hwz, hsl]; exact hkn.set 2 _ rfl
          have lz : Below w2.heap.size w2 wz := by rw [← hwz]; exact hkl.setCell (Nat.le_refl _) _
          have rz : RAt wz (slcSt cur) g' c' h' d' := by
            rw [← hwz, hsl]
            exact RAt.same (s := cur) (hkr.keep (Below.heap_setCell _ _ _ _ (by simpa using hne.1)) (Below.heap_setCell _ _ _ _ (by simpa using hne.2))) rfl rfl
          have tz : w2.heap.size < wz.heap.size := kz.lt
          have HWZ := Lib.hid hwz
          have hx2 := HX.out wz lz
          have KZ := Lib.hid kz
          have RZ := Lib.hid rz
          have LZ := Lib.hid lz
          have TZ := Lib.hid tz
          have HXF := Lib.hid hx2.2.1
          have HXR := Lib.hid hx2.2.2.1
          have HSW := Lib.hid (slcSt_wf hcwf)
          have HGH := Lib.hid hgh
          clear hx hx2 kz lz rz tz hsl hz hwz hkn hkr hkl hkt hgh hcwf
          go_wp2_with (first
            | (first | (rw [HWZ.out]; refine wpList_load_row rfl 30 (.tmp 8) rfl w2.heap.size rfl 30 (cv (slcSt cur) g' c' h' d') (0, 0) _ KZ.out Tryz.underlying30 rfl size_cell ?_) | refine wpList_load_row rfl 30 (.tmp 8) rfl w2.heap.size rfl 30 (cv (slcSt cur) g' c' h' d') (0, 0) _ KZ.out Tryz.underlying30 rfl size_cell ?_)
            | (refine wpList_load_row rfl 38 (.tmp 3) rfl (w.heap.size + 1) rfl 38 (fv x k a b) (0, 0) _ HXF.out Tryz.underlying38 rfl size_fault ?_))
          refine (rce_ends (slcSt cur) g' c' h' d' x k a b _).mono ?_
          rintro e w8 ⟨rfl, hb8⟩
          have XR8 := Lib.hid (HXR.out.after hb8)
          have RZ8 := Lib.hid (RZ.out.after HSW.out hb8)
          have LW : Hid (Below w.heap.size w w8) := (LOW.out.trans (LZ.out.mono (by have := TOP.out; omega))).trans (hb8.mono (by have := TOP.out; have := TZ.out; omega))
          clear hb8
          go_wp2_with (refine wpList_store_row rfl 30 (.tmp 4) (.tmp 74) rfl (w.heap.size + 2) (cv (endSt (slcSt cur) k) g' c' h' d') rfl rfl 30 zv XR8.out size_cell rfl (cv_one _ _ _ _ _) ?_)
          have hG : (g' = g ∧ h' = h) ∨ (w.heap.size + 3 ≤ g' ∧ w.heap.size + 3 ≤ h') := by
            rcases HGH.out with h1 | h1
            · exact Or.inl h1
            · exact Or.inr (by have := TOP.out; omega)
          have hL := HLT.out
          have hcu := HCUR.out
          rw [hcu]
          exact bodyPost_ret (results_cell_tmp rfl _ _ (w.heap.size + 2) 30 (cv (endSt (slcSt cur) k) g' c' h' d') _ rfl (XR8.out.put _) Tryz.underlying30 rfl size_cell) rfl ⟨⟨g', c', h', d', rfl, (RAt_end RZ8.out k).keep (setRow_heap_ne _ _ _ _ (by omega)) (setRow_heap_ne _ _ _ _ (by omega)), hG.elim Or.inl (fun h1 => Or.inr ⟨by omega, by omega⟩)⟩, below_put (by omega) _ LW.out⟩
        · have hzz : True := trivial
          have hz2 : (cur.mode == 0) = false := by simpa using hz
          have hsl : slcSt cur = cur := if_neg hz
          obtain ⟨wz, hwz⟩ : ∃ wz, wr = wz := ⟨_, rfl⟩
          have kz : Blk wz w2.heap.size (cv (slcSt cur) g' c' h' d') 30 := by rw [← hwz, hsl]; exact hkn
          have lz : Below w2.heap.size w2 wz := by rw [← hwz]; exact hkl
          have rz : RAt wz (slcSt cur) g' c' h' d' := by rw [← hwz, hsl]; exact hkr
          have tz : w2.heap.size < wz.heap.size := kz.lt
          have HWZ := Lib.hid hwz
          have hx2 := HX.out wz lz
          have KZ := Lib.hid kz
          have RZ := Lib.hid rz
          have LZ := Lib.hid lz
          have TZ := Lib.hid tz
          have HXF := Lib.hid hx2.2.1
          have HXR := Lib.hid hx2.2.2.1
          have HSW := Lib.hid (slcSt_wf hcwf)
          have HGH := Lib.hid hgh
          clear hx hx2 kz lz rz tz hsl hz hwz hkn hkr hkl hkt hgh hcwf
          go_wp2_with (first
            | (first | (rw [HWZ.out]; refine wpList_load_row rfl 30 (.tmp 8) rfl w2.heap.size rfl 30 (cv (slcSt cur) g' c' h' d') (0, 0) _ KZ.out Tryz.underlying30 rfl size_cell ?_) | refine wpList_load_row rfl 30 (.tmp 8) rfl w2.heap.size rfl 30 (cv (slcSt cur) g' c' h' d') (0, 0) _ KZ.out Tryz.underlying30 rfl size_cell ?_)
            | (refine wpList_load_row rfl 38 (.tmp 3) rfl (w.heap.size + 1) rfl 38 (fv x k a b) (0, 0) _ HXF.out Tryz.underlying38 rfl size_fault ?_))
          refine (rce_ends (slcSt cur) g' c' h' d' x k a b _).mono ?_
          rintro e w8 ⟨rfl, hb8⟩
          have XR8 := Lib.hid (HXR.out.after hb8)
          have RZ8 := Lib.hid (RZ.out.after HSW.out hb8)
          have LW : Hid (Below w.heap.size w w8) := (LOW.out.trans (LZ.out.mono (by have := TOP.out; omega))).trans (hb8.mono (by have := TOP.out; have := TZ.out; omega))
          clear hb8
          go_wp2_with (refine wpList_store_row rfl 30 (.tmp 4) (.tmp 74) rfl (w.heap.size + 2) (cv (endSt (slcSt cur) k) g' c' h' d') rfl rfl 30 zv XR8.out size_cell rfl (cv_one _ _ _ _ _) ?_)
          have hG : (g' = g ∧ h' = h) ∨ (w.heap.size + 3 ≤ g' ∧ w.heap.size + 3 ≤ h') := by
            rcases HGH.out with h1 | h1
            · exact Or.inl h1
            · exact Or.inr (by have := TOP.out; omega)
          have hL := HLT.out
          have hcu := HCUR.out
          rw [hcu]
          exact bodyPost_ret (results_cell_tmp rfl _ _ (w.heap.size + 2) 30 (cv (endSt (slcSt cur) k) g' c' h' d') _ rfl (XR8.out.put _) Tryz.underlying30 rfl size_cell) rfl ⟨⟨g', c', h', d', rfl, (RAt_end RZ8.out k).keep (setRow_heap_ne _ _ _ _ (by omega)) (setRow_heap_ne _ _ _ _ (by omega)), hG.elim Or.inl (fun h1 => Or.inr ⟨by omega, by omega⟩)⟩, below_put (by omega) _ LW.out⟩
  · have hmb : ((mode : Int) == 2) = false := by simpa using hmo
    have HMO := Lib.hid hmo
    clear hmo
    go_enter Tryz.func17, Tryz.ntmps17
    unfold cv fv
    go_wp2_with (first
      | (refine wpList_load_row rfl 38 (.tmp 3) rfl (w.heap.size + 1) rfl 38 (fv x k a b) (0, 0) _ (blk_mid w _ _ _ _) Tryz.underlying38 rfl size_fault ?_))
    refine (rce_hurts x k a b _).mono ?_
    rintro e w2 ⟨rfl, hb2⟩
    rw [HK.out]
    have hcm : CM w ⟨L, Y, mode, done, false, torn, slc, tlc, ps, hs⟩ g c h d x k a b w2 := by
      refine ⟨?_, (blk_mid w _ _ _ _).after hb2, (blk_third w _ _ _ _).after hb2, ?_, (below_3 w _ _ _).trans (hb2.mono (below_3 w _ _ _).size), by have := hb2.size; simp at this; omega⟩
      · rw [more_one _ g c h d HMO.out]
        exact (((Blk.new w _ _).alloc _).alloc _).after hb2
      · exact RAt.same (HR.out.after HWF.out ((below_3 w _ _ _).trans (hb2.mono (below_3 w _ _ _).size))) (more_same _).2.2.1 (more_same _).2.2.2.1
    have HCM := Lib.hid hcm
    clear hb2 hcm
    have hwm := HWM.out
    obtain ⟨m, hm⟩ : ∃ m, moreSt ⟨L, Y, mode, done, false, torn, slc, tlc, ps, hs⟩ = m := ⟨_, rfl⟩
    have hml : m.L = L := by rw [← hm]; exact (more_same _).1
    have c1 := HCM.out.cell
    have c2 := HCM.out.how
    have c3 := HCM.out.ans
    have c4 := HCM.out.rd
    have c5 := HCM.out.low
    have c6 := HCM.out.top
    rw [hm] at hwm c1 c4
    have hl1 := hwm.l1
    have hl64 := hwm.l64
    rw [hml] at hl1 hl64
    have hlt := HR.out.lt HWF.out
    have HX : Hid (∀ wr, Below w2.heap.size w2 wr → Blk wr w.heap.size (cv m g c h d) 30 ∧ Blk wr (w.heap.size + 1) (fv x k a b) 38 ∧ Blk wr (w.heap.size + 2) zv 30 ∧ RAt wr m g c h d) :=
      fun wr hb => ⟨c1.after hb, c2.after hb, c3.after hb, c4.after hwm hb⟩
    obtain ⟨w4, hw4⟩ : ∃ w4, (w2.alloc (.cells zv 30)).setRow w2.heap.size (cv m g c h d) = w4 := ⟨_, rfl⟩
    have n4 : Blk w4 w2.heap.size (cv m g c h d) 30 := by rw [← hw4]; exact (Blk.new w2 zv _).put _
    have l4 : Below w2.heap.size w2 w4 := by rw [← hw4]; exact below_put (Nat.le_refl _) _ ((Below.refl _ _).alloc (Nat.le_refl _) _)
    have t4 : w2.heap.size < w4.heap.size := n4.lt
    have r4 := (HX.out w4 l4).2.2.2
    have N2 := Lib.hid (Blk.new w2 zv 30)
    have HW4 := Lib.hid hw4
    have N4 := Lib.hid n4
    have L4 := Lib.hid l4
    have T4 := Lib.hid t4
    have R4 := Lib.hid r4
    have C1 := Lib.hid c1
    have HM := Lib.hid hm
    have HML := Lib.hid hml
    have HWM2 := Lib.hid hwm
    have LOW := Lib.hid c5
    have TOP := Lib.hid c6
    have HLT := Lib.hid hlt
    clear hwm hm hml c1 c2 c3 c4 c5 c6 hw4 n4 l4 t4 r4 HCM hlt
    go_wp2_with (first
      | (refine wpList_load_row rfl 30 (.tmp 2) rfl w.heap.size rfl 30 (cv m g c h d) (0, 0) _ C1.out Tryz.underlying30 rfl size_cell ?_)
      | (refine wpList_store_row rfl 30 (.tmp 8) (.tmp 44) rfl w2.heap.size (cv m g c h d) rfl rfl 30 zv N2.out size_cell rfl (cv_one _ _ _ _ _) ?_; change wpList _ _ _ _ _ ((w2.alloc (.cells zv 30)).setRow w2.heap.size (cv m g c h d)); rw [HW4.out]))
    go_loopw [9] (fun iv wr => ∃ (n g' c' h' d' : Nat), n ≤ 3 * L ∧ iv = .int .i64 n ∧ Blk wr w2.heap.size (cv (ruinTo m m a b k n) g' c' h' d') 30 ∧ RAt wr (ruinTo m m a b k n) g' c' h' d' ∧ ((g' = g ∧ h' = h) ∨ (w2.heap.size < g' ∧ w2.heap.size < h')) ∧ Below w2.heap.size w2 wr ∧ w2.heap.size < wr.heap.size) (fun iv _ => 3 * L - (intOf iv).toNat)
    case atStart => exact ⟨0, g, c, h, d, Nat.zero_le _, rfl, N4.out, R4.out, Or.inl ⟨rfl, rfl⟩, L4.out, T4.out⟩
    case round =>
      obtain ⟨n, g', c', h', d', hn, rfl, hkn, hkr, hgh, hkl, hkt⟩ := hrel
      obtain ⟨cur, hcur⟩ : ∃ cur, ruinTo m m a b k n = cur := ⟨_, rfl⟩
      have hcwf : WfSt cur := by rw [← hcur]; exact ruinTo_wf HWM2.out HWM2.out a b k n
      rw [hcur] at hkn hkr
      have hx := HX.out wr hkl
      have hc0 : wr.cell? ⟨w.heap.size, 0, none⟩ = some (.int .i64 L) := by rw [← HML.out]; exact hx.1.cell 0
      have hw3 : IntKind.i64.wrap (3 * (L : Int)) = 3 * (L : Int) := by rw [IntKind.wrap_i64]; omega
      by_cases hlt : n < 3 * L
      · have hlt' : (n : Int) < 3 * (L : Int) := by omega
        have CN : Hid (ruinTo m m a b k (n + 1) = putSt cur n (ruinT m a b k n) true) := by show ruinTo m m a b k (n + 1) = _; rw [← hcur]; rfl
        have HX1 := Lib.hid hx.1
        have HX2 := Lib.hid hx.2.1
        have HAT := Lib.hid (rce_at m g c h d n wr HWM2.out hx.2.2.2 (by rw [HML.out]; exact hlt))
        have hsz := atT_size HWM2.out n
        have CWF := Lib.hid hcwf
        have KN0 := Lib.hid hkn
        have KR0 := Lib.hid hkr
        have KL0 := Lib.hid hkl
        have KT0 := Lib.hid hkt
        clear hx hcwf hkn hkr hkl hgh hcur hkt
        go_wp2_with (first
          | (refine wpList_load_row rfl 30 (.tmp 2) rfl w.heap.size rfl 30 (cv m g c h d) (0, 0) _ HX1.out Tryz.underlying30 rfl size_cell ?_))
        refine HAT.out.mono ?_
        rintro e w5 ⟨rfl, hb5⟩
        have KN1 := Lib.hid (KN0.out.after hb5)
        have KR1 := Lib.hid (KR0.out.after CWF.out hb5)
        have KL1 := Lib.hid (KL0.out.trans (hb5.mono KL0.out.size))
        have KT1 : Hid (w2.heap.size < w5.heap.size) := Nat.lt_of_lt_of_le KT0.out hb5.size
        have HX3 := Lib.hid (HX2.out.after hb5)
        clear hb5 HX1 HX2 KN0 KR0 KL0 KT0 HAT
        obtain ⟨t, ht⟩ : ∃ t, atT m n = t := ⟨_, rfl⟩
        have HAH : Hid (atH m n = true → ruinT m a b k n = t) := fun h => by unfold ruinT; rw [if_pos h, ht]
        have HAN : Hid (atH m n = false → ruinT m a b k n = pageT t k a b) := fun h => by unfold ruinT; rw [if_neg (by rw [h]; simp), ht]
        rw [ht] at hsz ⊢
        obtain ⟨old, hold⟩ : ∃ old, atH m n = old := ⟨_, rfl⟩
        rw [hold] at HAH HAN ⊢
        clear ht hold
        cases old with
        | true =>
          have HRU := Lib.hid (HAH.out rfl)
          rw [HRU.out] at CN
          clear HAH HAN
          go_wp2_with (first
            | (refine wpList_load_row rfl 30 (.tmp 8) rfl w2.heap.size rfl 30 (cv cur g' c' h' d') (0, 0) _ KN1.out Tryz.underlying30 rfl size_cell ?_))
          refine (rce_put cur g' c' h' d' n t true _ CWF.out KR1.out).mono ?_
          rintro e w7 ⟨⟨g2, c2, h2, d2, rfl, hr2, hg2, hh2⟩, hb7⟩
          have KN7 := Lib.hid (KN1.out.after hb7)
          have KL7 := Lib.hid (KL1.out.trans (hb7.mono KL1.out.size))
          have hlt7 := hr2.lt (putSt_wf CWF.out n true hsz)
          have KT7 : Hid (w2.heap.size < w5.heap.size) := KT1.out
          have HR2 := Lib.hid hr2
          have HG2 : Hid (w2.heap.size < g2 ∧ w2.heap.size < h2) := ⟨by have := KT1.out; omega, by have := KT1.out; omega⟩
          clear hb7 hr2 hg2 hh2
          go_wp2_with (refine wpList_store_row rfl 30 (.tmp 8) (.tmp 66) rfl w2.heap.size (cv (putSt cur n t true) g2 c2 h2 d2) rfl rfl 30 (cv cur g' c' h' d') KN7.out size_cell rfl (cv_one _ _ _ _ _) ?_)
          go_roundw
          case rel =>
            have hG2 := HG2.out
            refine ⟨n + 1, g2, c2, h2, d2, by omega, by go_num, ?_, ?_, Or.inr hG2, below_put (Nat.le_refl _) _ KL7.out, ?_⟩
            · rw [CN.out]; exact KN7.out.put _
            · rw [CN.out]; exact HR2.out.keep (setRow_heap_ne _ _ _ _ (by omega)) (setRow_heap_ne _ _ _ _ (by omega))
            · rw [size_setRow]; have := KN7.out.lt; omega
          case measure => simp [intOf]; omega
        | false =>
          have HRU := Lib.hid (HAN.out rfl)
          rw [HRU.out] at CN
          clear HAH HAN
          go_wp2_with (first
            | (refine wpList_load_row rfl 38 (.tmp 3) rfl (w.heap.size + 1) rfl 38 (fv x k a b) (0, 0) _ HX3.out Tryz.underlying38 rfl size_fault ?_))
          refine (rce_page t x k a b _ (by omega)).mono ?_
          rintro e w6 ⟨rfl, hb6⟩
          have KN2 := Lib.hid (KN1.out.after hb6)
          have KR2 := Lib.hid (KR1.out.after CWF.out hb6)
          have KL2 := Lib.hid (KL1.out.trans (hb6.mono KL1.out.size))
          have KT2 : Hid (w2.heap.size < w6.heap.size) := Nat.lt_of_lt_of_le KT1.out hb6.size
          have hpsz : (pageT t k a b).size ≤ 400 := by rw [pageT_size]; exact hsz
          clear hb6 KN1 KR1 KL1 KT1
          go_wp2_with (first
            | (refine wpList_load_row rfl 30 (.tmp 8) rfl w2.heap.size rfl 30 (cv cur g' c' h' d') (0, 0) _ KN2.out Tryz.underlying30 rfl size_cell ?_))
          refine (rce_put cur g' c' h' d' n (pageT t k a b) true _ CWF.out KR2.out).mono ?_
          rintro e w7 ⟨⟨g2, c2, h2, d2, rfl, hr2, hg2, hh2⟩, hb7⟩
          have KN7 := Lib.hid (KN2.out.after hb7)
          have KL7 := Lib.hid (KL2.out.trans (hb7.mono KL2.out.size))
          have hlt7 := hr2.lt (putSt_wf CWF.out n true hpsz)
          have KT7 : Hid (w2.heap.size < w6.heap.size) := KT2.out
          have HR2 := Lib.hid hr2
          have HG2 : Hid (w2.heap.size < g2 ∧ w2.heap.size < h2) := ⟨by have := KT2.out; omega, by have := KT2.out; omega⟩
          clear hb7 hr2 hg2 hh2
          go_wp2_with (refine wpList_store_row rfl 30 (.tmp 8) (.tmp 66) rfl w2.heap.size (cv (putSt cur n (pageT t k a b) true) g2 c2 h2 d2) rfl rfl 30 (cv cur g' c' h' d') KN7.out size_cell rfl (cv_one _ _ _ _ _) ?_)
          go_roundw
          case rel =>
            have hG2 := HG2.out
            refine ⟨n + 1, g2, c2, h2, d2, by omega, by go_num, ?_, ?_, Or.inr hG2, below_put (Nat.le_refl _) _ KL7.out, ?_⟩
            · rw [CN.out]; exact KN7.out.put _
            · rw [CN.out]; exact HR2.out.keep (setRow_heap_ne _ _ _ _ (by omega)) (setRow_heap_ne _ _ _ _ (by omega))
            · rw [size_setRow]; have := KN7.out.lt; omega
          case measure => simp [intOf]; omega
      · obtain rfl : n = 3 * L := by omega
        have hlt' : ¬ ((3 * L : Nat) : Int) < 3 * (L : Int) := by omega
        have hc2 : wr.cell? ⟨w2.heap.size, 2, none⟩ = some (.int .i64 cur.mode) := hkn.cell 2
        have hf2 := hkn.free 2
        have HCUR : Hid (ruinTo (moreSt ⟨L, Y, mode, done, false, torn, slc, tlc, ps, hs⟩) (moreSt ⟨L, Y, mode, done, false, torn, slc, tlc, ps, hs⟩) a b k (3 * L) = cur) := by show ruinTo _ _ _ _ _ _ = _; rw [HM.out]; exact hcur
        clear hcur
        have hne : g' ≠ w2.heap.size ∧ h' ≠ w2.heap.size := by
          have h3 := HLT.out
          have h4 := TOP.out
          rcases hgh with h1 | h1 <;> omega
        by_cases hz : cur.mode = 0
        · have hzz : True := trivial
          have hz2 : (cur.mode == 0) = true := by simp [hz]
          have hsl : slcSt cur = { cur with mode := 1 } := if_pos hz
          obtain ⟨wz, hwz⟩ : ∃ wz, wr.setCell ⟨w2.heap.size, 2, none⟩ (.int .i64 1) = wz := ⟨_, rfl⟩
          have kz : Blk wz w2.heap.size (cv (slcSt cur) g' c' h' d') 30 := by rw [← hwz, hsl]; exact hkn.set 2 _ rfl
          have lz : Below w2.heap.size w2 wz := by rw [← hwz]; exact hkl.setCell (Nat.le_refl _) _
          have rz : RAt wz (slcSt cur) g' c' h' d' := by
            rw [← hwz, hsl]
            exact RAt.same (s := cur) (hkr.keep (Below.heap_setCell _ _ _ _ (by simpa using hne.1)) (Below.heap_setCell _ _ _ _ (by simpa using hne.2))) rfl rfl
          have tz : w2.heap.size < wz.heap.size := kz.lt
          have HWZ := Lib.hid hwz
          have hx2 := HX.out wz lz
          have KZ := Lib.hid kz
          have RZ := Lib.hid rz
          have LZ := Lib.hid lz
          have TZ := Lib.hid tz
          have HXF := Lib.hid hx2.2.1
          have HXR := Lib.hid hx2.2.2.1
          have HSW := Lib.hid (slcSt_wf hcwf)
          have HGH := Lib.hid hgh
          clear hx hx2 kz lz rz tz hsl hz hwz hkn hkr hkl hkt hgh hcwf
          go_wp2_with (first
            | (first | (rw [HWZ.out]; refine wpList_load_row rfl 30 (.tmp 8) rfl w2.heap.size rfl 30 (cv (slcSt cur) g' c' h' d') (0, 0) _ KZ.out Tryz.underlying30 rfl size_cell ?_) | refine wpList_load_row rfl 30 (.tmp 8) rfl w2.heap.size rfl 30 (cv (slcSt cur) g' c' h' d') (0, 0) _ KZ.out Tryz.underlying30 rfl size_cell ?_)
            | (refine wpList_load_row rfl 38 (.tmp 3) rfl (w.heap.size + 1) rfl 38 (fv x k a b) (0, 0) _ HXF.out Tryz.underlying38 rfl size_fault ?_))
          refine (rce_ends (slcSt cur) g' c' h' d' x k a b _).mono ?_
          rintro e w8 ⟨rfl, hb8⟩
          have XR8 := Lib.hid (HXR.out.after hb8)
          have RZ8 := Lib.hid (RZ.out.after HSW.out hb8)
          have LW : Hid (Below w.heap.size w w8) := (LOW.out.trans (LZ.out.mono (by have := TOP.out; omega))).trans (hb8.mono (by have := TOP.out; have := TZ.out; omega))
          clear hb8
          go_wp2_with (refine wpList_store_row rfl 30 (.tmp 4) (.tmp 74) rfl (w.heap.size + 2) (cv (endSt (slcSt cur) k) g' c' h' d') rfl rfl 30 zv XR8.out size_cell rfl (cv_one _ _ _ _ _) ?_)
          have hG : (g' = g ∧ h' = h) ∨ (w.heap.size + 3 ≤ g' ∧ w.heap.size + 3 ≤ h') := by
            rcases HGH.out with h1 | h1
            · exact Or.inl h1
            · exact Or.inr (by have := TOP.out; omega)
          have hL := HLT.out
          have hcu := HCUR.out
          rw [hcu]
          exact bodyPost_ret (results_cell_tmp rfl _ _ (w.heap.size + 2) 30 (cv (endSt (slcSt cur) k) g' c' h' d') _ rfl (XR8.out.put _) Tryz.underlying30 rfl size_cell) rfl ⟨⟨g', c', h', d', rfl, (RAt_end RZ8.out k).keep (setRow_heap_ne _ _ _ _ (by omega)) (setRow_heap_ne _ _ _ _ (by omega)), hG.elim Or.inl (fun h1 => Or.inr ⟨by omega, by omega⟩)⟩, below_put (by omega) _ LW.out⟩
        · have hzz : True := trivial
          have hz2 : (cur.mode == 0) = false := by simpa using hz
          have hsl : slcSt cur = cur := if_neg hz
          obtain ⟨wz, hwz⟩ : ∃ wz, wr = wz := ⟨_, rfl⟩
          have kz : Blk wz w2.heap.size (cv (slcSt cur) g' c' h' d') 30 := by rw [← hwz, hsl]; exact hkn
          have lz : Below w2.heap.size w2 wz := by rw [← hwz]; exact hkl
          have rz : RAt wz (slcSt cur) g' c' h' d' := by rw [← hwz, hsl]; exact hkr
          have tz : w2.heap.size < wz.heap.size := kz.lt
          have HWZ := Lib.hid hwz
          have hx2 := HX.out wz lz
          have KZ := Lib.hid kz
          have RZ := Lib.hid rz
          have LZ := Lib.hid lz
          have TZ := Lib.hid tz
          have HXF := Lib.hid hx2.2.1
          have HXR := Lib.hid hx2.2.2.1
          have HSW := Lib.hid (slcSt_wf hcwf)
          have HGH := Lib.hid hgh
          clear hx hx2 kz lz rz tz hsl hz hwz hkn hkr hkl hkt hgh hcwf
          go_wp2_with (first
            | (first | (rw [HWZ.out]; refine wpList_load_row rfl 30 (.tmp 8) rfl w2.heap.size rfl 30 (cv (slcSt cur) g' c' h' d') (0, 0) _ KZ.out Tryz.underlying30 rfl size_cell ?_) | refine wpList_load_row rfl 30 (.tmp 8) rfl w2.heap.size rfl 30 (cv (slcSt cur) g' c' h' d') (0, 0) _ KZ.out Tryz.underlying30 rfl size_cell ?_)
            | (refine wpList_load_row rfl 38 (.tmp 3) rfl (w.heap.size + 1) rfl 38 (fv x k a b) (0, 0) _ HXF.out Tryz.underlying38 rfl size_fault ?_))
          refine (rce_ends (slcSt cur) g' c' h' d' x k a b _).mono ?_
          rintro e w8 ⟨rfl, hb8⟩
          have XR8 := Lib.hid (HXR.out.after hb8)
          have RZ8 := Lib.hid (RZ.out.after HSW.out hb8)
          have LW : Hid (Below w.heap.size w w8) := (LOW.out.trans (LZ.out.mono (by have := TOP.out; omega))).trans (hb8.mono (by have := TOP.out; have := TZ.out; omega))
          clear hb8
          go_wp2_with (refine wpList_store_row rfl 30 (.tmp 4) (.tmp 74) rfl (w.heap.size + 2) (cv (endSt (slcSt cur) k) g' c' h' d') rfl rfl 30 zv XR8.out size_cell rfl (cv_one _ _ _ _ _) ?_)
          have hG : (g' = g ∧ h' = h) ∨ (w.heap.size + 3 ≤ g' ∧ w.heap.size + 3 ≤ h') := by
            rcases HGH.out with h1 | h1
            · exact Or.inl h1
            · exact Or.inr (by have := TOP.out; omega)
          have hL := HLT.out
          have hcu := HCUR.out
          rw [hcu]
          exact bodyPost_ret (results_cell_tmp rfl _ _ (w.heap.size + 2) 30 (cv (endSt (slcSt cur) k) g' c' h' d') _ rfl (XR8.out.put _) Tryz.underlying30 rfl size_cell) rfl ⟨⟨g', c', h', d', rfl, (RAt_end RZ8.out k).keep (setRow_heap_ne _ _ _ _ (by omega)) (setRow_heap_ne _ _ _ _ (by omega)), hG.elim Or.inl (fun h1 => Or.inr ⟨by omega, by omega⟩)⟩, below_put (by omega) _ LW.out⟩

theorem rce_erase (s : St) (g c h d : Nat) (x k a b : Int) (w : World) (hw : WfSt s) (hr : RAt w s g c h d) (hn1 : s.slc < 1000000000) (hn2 : s.tlc < 1000000000) :
    Calls Tryz.prog 17 #[.agg (cv s g c h d), .agg (fv x k a b)] w (PairT (eraseSt s k a b) (eraseC s k) g h w) := by
  cases hb : s.bad with
  | true => exact rce_erase_bad s g c h d x k a b w hw hr hb
  | false =>
    cases hk : hurtsB k with
    | true => exact rce_erase_hurt s g c h d x k a b w hw hr hb hk hn1 hn2
    | false => exact rce_erase_well s g c h d x k a b w hw hr hb hk hn1 hn2

end Go.Proofs.YtjmoecfgpfdncaaGreatDoor

/- The reference of layer 8, walked: Foggy, Fine; what each act leaves can be. -/
namespace Go.Proofs.YtjmoecfgpfdncaaGreatDoor
set_option maxRecDepth 100000
open Go.RowKit

theorem progSt_wf {s : St} (h : WfSt s) (line : Int) (p : ByteArray) (k a b : Int) : WfSt (progSt s line p k a b) := by
  unfold progSt
  split
  · rename_i hok
    obtain ⟨_, _, _, k4, k5, k6⟩ := hok
    exact endSt_wf (putSt_wf (stepSt_wf h (Or.inl rfl) (by omega)) _ _ (by rw [pageT_size]; exact takes_size h k6)) k
  · exact h
theorem twoSt_wf {s : St} (h : WfSt s) (line : Int) (p q r : ByteArray) (f : Bool) (k a b : Int) : WfSt (twoSt s line p q r f k a b) := by
  unfold twoSt
  split
  · rename_i hok
    exact endSt_wf (put3_wf (stepSt_wf h (Or.inr rfl) hok.2.2.2.1) _ k a b (takes_size h hok.2.2.2.2.2.2.1) (takes_size h hok.2.2.2.2.2.2.2.1) (takes_size h hok.2.2.2.2.2.2.2.2.1) 3 (Nat.le_refl _)) k
  · exact h
theorem eraseSt_wf {s : St} (h : WfSt s) (k a b : Int) (h1 : s.slc < 1000000000) (h2 : s.tlc < 1000000000) : WfSt (eraseSt s k a b) := by
  have hm := moreSt_wf h h1 h2
  unfold eraseSt
  split
  · exact h
  · split
    · exact endSt_wf (slcSt_wf (ruinTo_wf hm hm a b k _)) k
    · obtain ⟨a1, a2, a3, a4, a5, a6, a7, a8, a9, a10⟩ := newSt_wf h
      exact ⟨a1, a2, a3, a4, a5, a6, a7, a8, hm.slc, hm.tlc⟩

set_option maxHeartbeats 1000000 in
theorem rce_foggy (s : St) (g c h d : Nat) (line : Int) (p q r : ByteArray) (x k a b : Int) (w : World) (hw : WfSt s) (hr : RAt w s g c h d) (hw2 : WfSt (twoSt s line p q r false k a b)) :
    Calls Tryz.prog 13 #[.agg (cv s g c h d), .int .i64 line, .agg (tv3 p q r), .agg (fv x k a b)] w (PairT (twoSt s line p q r false k a b) (twoC s line p q r false k) g h w) := by
  have b1 := blk_4a w (.cells (tv3 p q r) 36) (.cells (fv x k a b) 38) (.cells zv 30) (cv s g c h d) 30
  have b2 := blk_4b w (.cells (cv s g c h d) 30) (.cells (fv x k a b) 38) (.cells zv 30) (tv3 p q r) 36
  have b3 := blk_4c w (.cells (cv s g c h d) 30) (.cells (tv3 p q r) 36) (.cells zv 30) (fv x k a b) 38
  have b4 := blk_4d w (.cells (cv s g c h d) 30) (.cells (tv3 p q r) 36) (.cells (fv x k a b) 38) zv 30
  have bw := below_4 w (.cells (cv s g c h d) 30) (.cells (tv3 p q r) 36) (.cells (fv x k a b) 38) (.cells zv 30)
  obtain ⟨w1, hw1⟩ : ∃ w1, (((w.alloc (.cells (cv s g c h d) 30)).alloc (.cells (tv3 p q r) 36)).alloc (.cells (fv x k a b) 38)).alloc (.cells zv 30) = w1 := ⟨_, rfl⟩
  rw [hw1] at b1 b2 b3 b4 bw
  have B1 := Lib.hid b1
  have B2 := Lib.hid b2
  have B3 := Lib.hid b3
  have B4 := Lib.hid b4
  have BW := Lib.hid bw
  have HW1 := Lib.hid hw1
  have HWF := Lib.hid hw
  have HW2 := Lib.hid hw2
  have HR := Lib.hid (hr.after hw bw)
  have HLT := Lib.hid (hr.lt hw)
  have ht4 : w.heap.size + 4 ≤ w1.heap.size := by rw [← hw1]; simp only [World.size_alloc]; omega
  have HT4 := Lib.hid ht4
  clear b1 b2 b3 b4 bw hw1 hw hr ht4 hw2
  go_enter Tryz.func13, Tryz.ntmps13
  go_wp2_with (first
    | (change wpList _ _ _ _ _ ((((w.alloc (.cells (cv s g c h d) 30)).alloc (.cells (tv3 p q r) 36)).alloc (.cells (fv x k a b) 38)).alloc (.cells zv 30)); rw [HW1.out]; refine wpList_load_row rfl 30 (.tmp 4) rfl w.heap.size rfl 30 (cv s g c h d) (0, 0) _ B1.out Tryz.underlying30 rfl size_cell ?_)
    | (refine wpList_load_row rfl 36 (.tmp 6) rfl (w.heap.size + 1) rfl 36 (tv3 p q r) (0, 0) _ B2.out Tryz.underlying36 rfl size_three ?_)
    | (refine wpList_load_row rfl 38 (.tmp 7) rfl (w.heap.size + 2) rfl 38 (fv x k a b) (0, 0) _ B3.out Tryz.underlying38 rfl size_fault ?_))
  refine (rce_two s g c h d line p q r false x k a b _ HWF.out HR.out).mono ?_
  rintro e w2 ⟨⟨g', c', h', d', rfl, hr', hgh⟩, hb2⟩
  have B42 := Lib.hid (B4.out.after hb2)
  have BW2 := Lib.hid (BW.out.trans (hb2.mono BW.out.size))
  have HR2 := Lib.hid hr'
  have HGH := Lib.hid hgh
  obtain ⟨s2, hs2⟩ : ∃ s2, twoSt s line p q r false k a b = s2 := ⟨_, rfl⟩
  obtain ⟨ec, hec⟩ : ∃ ec, twoC s line p q r false k = ec := ⟨_, rfl⟩
  have HS2 := Lib.hid hs2
  have HEC := Lib.hid hec
  rw [hs2] at HR2 HW2
  rw [hs2, hec]
  clear hb2 hr' hgh hs2 hec
  go_wp2_with (refine wpList_store_row rfl 30 (.tmp 8) (.tmp 15) rfl (w.heap.size + 3) (cv s2 g' c' h' d') rfl rfl 30 zv B42.out size_cell rfl (cv_one _ _ _ _ _) ?_)
  have hG := HGH.out
  have hL := HLT.out
  have hT := HT4.out
  rw [HS2.out, HEC.out]
  exact bodyPost_ret (results_cell_tmp rfl _ _ (w.heap.size + 3) 30 (cv s2 g' c' h' d') _ rfl (B42.out.put _) Tryz.underlying30 rfl size_cell) rfl ⟨⟨g', c', h', d', rfl, HR2.out.keep (setRow_heap_ne _ _ _ _ (by omega)) (setRow_heap_ne _ _ _ _ (by omega)), hG.elim Or.inl (fun h1 => Or.inr ⟨by omega, by omega⟩)⟩, below_put (by omega) _ BW2.out⟩

set_option maxHeartbeats 1000000 in
theorem rce_fine (s : St) (g c h d : Nat) (line : Int) (p q r : ByteArray) (x k a b : Int) (w : World) (hw : WfSt s) (hr : RAt w s g c h d) (hw2 : WfSt (twoSt s line p q r true k a b)) :
    Calls Tryz.prog 15 #[.agg (cv s g c h d), .int .i64 line, .agg (tv3 p q r), .agg (fv x k a b)] w (PairT (twoSt s line p q r true k a b) (twoC s line p q r true k) g h w) := by
  have b1 := blk_4a w (.cells (tv3 p q r) 36) (.cells (fv x k a b) 38) (.cells zv 30) (cv s g c h d) 30
  have b2 := blk_4b w (.cells (cv s g c h d) 30) (.cells (fv x k a b) 38) (.cells zv 30) (tv3 p q r) 36
  have b3 := blk_4c w (.cells (cv s g c h d) 30) (.cells (tv3 p q r) 36) (.cells zv 30) (fv x k a b) 38
  have b4 := blk_4d w (.cells (cv s g c h d) 30) (.cells (tv3 p q r) 36) (.cells (fv x k a b) 38) zv 30
  have bw := below_4 w (.cells (cv s g c h d) 30) (.cells (tv3 p q r) 36) (.cells (fv x k a b) 38) (.cells zv 30)
  obtain ⟨w1, hw1⟩ : ∃ w1, (((w.alloc (.cells (cv s g c h d) 30)).alloc (.cells (tv3 p q r) 36)).alloc (.cells (fv x k a b) 38)).alloc (.cells zv 30) = w1 := ⟨_, rfl⟩
  rw [hw1] at b1 b2 b3 b4 bw
  have B1 := Lib.hid b1
  have B2 := Lib.hid b2
  have B3 := Lib.hid b3
  have B4 := Lib.hid b4
  have BW := Lib.hid bw
  have HW1 := Lib.hid hw1
  have HWF := Lib.hid hw
  have HW2 := Lib.hid hw2
  have HR := Lib.hid (hr.after hw bw)
  have HLT := Lib.hid (hr.lt hw)
  have ht4 : w.heap.size + 4 ≤ w1.heap.size := by rw [← hw1]; simp only [World.size_alloc]; omega
  have HT4 := Lib.hid ht4
  clear b1 b2 b3 b4 bw hw1 hw hr ht4 hw2
  go_enter Tryz.func15, Tryz.ntmps15
  go_wp2_with (first
    | (change wpList _ _ _ _ _ ((((w.alloc (.cells (cv s g c h d) 30)).alloc (.cells (tv3 p q r) 36)).alloc (.cells (fv x k a b) 38)).alloc (.cells zv 30)); rw [HW1.out]; refine wpList_load_row rfl 30 (.tmp 4) rfl w.heap.size rfl 30 (cv s g c h d) (0, 0) _ B1.out Tryz.underlying30 rfl size_cell ?_)
    | (refine wpList_load_row rfl 36 (.tmp 6) rfl (w.heap.size + 1) rfl 36 (tv3 p q r) (0, 0) _ B2.out Tryz.underlying36 rfl size_three ?_)
    | (refine wpList_load_row rfl 38 (.tmp 7) rfl (w.heap.size + 2) rfl 38 (fv x k a b) (0, 0) _ B3.out Tryz.underlying38 rfl size_fault ?_))
  refine (rce_two s g c h d line p q r true x k a b _ HWF.out HR.out).mono ?_
  rintro e w2 ⟨⟨g', c', h', d', rfl, hr', hgh⟩, hb2⟩
  have B42 := Lib.hid (B4.out.after hb2)
  have BW2 := Lib.hid (BW.out.trans (hb2.mono BW.out.size))
  have HR2 := Lib.hid hr'
  have HGH := Lib.hid hgh
  obtain ⟨s2, hs2⟩ : ∃ s2, twoSt s line p q r true k a b = s2 := ⟨_, rfl⟩
  obtain ⟨ec, hec⟩ : ∃ ec, twoC s line p q r true k = ec := ⟨_, rfl⟩
  have HS2 := Lib.hid hs2
  have HEC := Lib.hid hec
  rw [hs2] at HR2 HW2
  rw [hs2, hec]
  clear hb2 hr' hgh hs2 hec
  go_wp2_with (refine wpList_store_row rfl 30 (.tmp 8) (.tmp 15) rfl (w.heap.size + 3) (cv s2 g' c' h' d') rfl rfl 30 zv B42.out size_cell rfl (cv_one _ _ _ _ _) ?_)
  have hG := HGH.out
  have hL := HLT.out
  have hT := HT4.out
  rw [HS2.out, HEC.out]
  exact bodyPost_ret (results_cell_tmp rfl _ _ (w.heap.size + 3) 30 (cv s2 g' c' h' d') _ rfl (B42.out.put _) Tryz.underlying30 rfl size_cell) rfl ⟨⟨g', c', h', d', rfl, HR2.out.keep (setRow_heap_ne _ _ _ _ (by omega)) (setRow_heap_ne _ _ _ _ (by omega)), hG.elim Or.inl (fun h1 => Or.inr ⟨by omega, by omega⟩)⟩, below_put (by omega) _ BW2.out⟩

end Go.Proofs.YtjmoecfgpfdncaaGreatDoor

/- Layer 8: what is read of a state that was turned. -/
namespace Go.Proofs.YtjmoecfgpfdncaaGreatDoor
set_option maxRecDepth 100000
open Go.RowKit

theorem put_page (s : St) (i j : Nat) (p : ByteArray) (h : Bool) (hi : i < s.ps.length) : pageAt (putSt s i p h) j = if j = i then p else pageAt s j := by
  unfold pageAt putSt
  simp only [List.getD_eq_getElem?_getD, List.getElem?_set]
  by_cases e : i = j
  · subst e; rw [if_pos rfl, if_pos hi, if_pos rfl]; rfl
  · rw [if_neg e, if_neg (Ne.symm e)]
theorem put_mark (s : St) (i j : Nat) (p : ByteArray) (h : Bool) (hi : i < s.hs.length) : (putSt s i p h).hs.getD j false = if j = i then h else s.hs.getD j false := by
  unfold putSt
  simp only [List.getD_eq_getElem?_getD, List.getElem?_set]
  by_cases e : i = j
  · subst e; rw [if_pos rfl, if_pos hi, if_pos rfl]; rfl
  · rw [if_neg e, if_neg (Ne.symm e)]
theorem ruin_lens (s t : St) (a b k : Int) : ∀ n, (ruinTo s t a b k n).ps.length = t.ps.length ∧ (ruinTo s t a b k n).hs.length = t.hs.length
  | 0 => ⟨rfl, rfl⟩
  | n + 1 => by
    have h := ruin_lens s t a b k n
    constructor
    · simp [ruinTo, putSt, h.1]
    · simp [ruinTo, putSt, h.2]
theorem ruin_page (s t : St) (a b k : Int) (j : Nat) : ∀ n, n ≤ t.ps.length → n ≤ t.hs.length → j < n → pageAt (ruinTo s t a b k n) j = ruinT s a b k j ∧ (ruinTo s t a b k n).hs.getD j false = true
  | 0, _, _, h => absurd h (Nat.not_lt_zero _)
  | n + 1, h1, h2, h => by
    have hl := ruin_lens s t a b k n
    have e1 := put_page (ruinTo s t a b k n) n j (ruinT s a b k n) true (by rw [hl.1]; omega)
    have e2 := put_mark (ruinTo s t a b k n) n j (ruinT s a b k n) true (by rw [hl.2]; omega)
    show pageAt (putSt _ _ _ _) j = _ ∧ (putSt _ _ _ _).hs.getD j false = true
    rw [e1, e2]
    by_cases e : j = n
    · subst e; rw [if_pos rfl, if_pos rfl]; exact ⟨rfl, rfl⟩
    · rw [if_neg e, if_neg e]; exact ruin_page s t a b k j n (by omega) (by omega) (by omega)
theorem end_same (s : St) (k : Int) : (endSt s k).L = s.L ∧ (endSt s k).Y = s.Y ∧ (endSt s k).mode = s.mode ∧ (endSt s k).done = s.done := by
  unfold endSt
  split
  · exact ⟨rfl, rfl, rfl, rfl⟩
  · split <;> exact ⟨rfl, rfl, rfl, rfl⟩
theorem at_hurt {s : St} {j : Nat} (h1 : ¬ pageAt s j = ByteArray.empty) (h2 : s.hs.getD j false = true) : atT s j = pageAt s j := by
  unfold atT
  rw [if_neg h1, if_pos h2]
theorem at_blank {s : St} {j : Nat} (h1 : pageAt s j = ByteArray.empty) : atT s j = blankS s.Y ∧ atH s j = false := by
  unfold atT atH
  rw [if_pos h1, if_pos h1]
  exact ⟨rfl, rfl⟩
theorem full_of_size {p : ByteArray} {n : Nat} (h : p.size = n + 1) : ¬ p = ByteArray.empty := fun he => by rw [he] at h; exact absurd h (by simp)
theorem newSt_ok {l y : Nat} (h1 : 1 ≤ l) (h2 : l ≤ 64) (h3 : LenOk y) : WfSt (newSt l y) := by
  refine ⟨h1, h2, h3, Nat.zero_le _, by simp [newSt], by simp [newSt], fun j => ?_, Or.inl rfl, Nat.zero_le _, Nat.zero_le _⟩
  simp only [newSt, List.getD_eq_getElem?_getD, List.getElem?_replicate]
  split <;> simp

end Go.Proofs.YtjmoecfgpfdncaaGreatDoor

/- Layer 8, the code: its lines, and what they have to do with what the document asks. -/
namespace Go.Proofs.YtjmoecfgpfdncaaGreatDoor
set_option maxRecDepth 100000
open Go.RowKit

/-- a line: its three pages; was it hurt -/
structure Ln where
  p : ByteArray
  q : ByteArray
  r : ByteArray
  h : Bool
def Ln.pt (l : Ln) : Nat → ByteArray
  | 0 => l.p
  | 1 => l.q
  | _ => l.r
def l0 : Ln := ⟨ByteArray.empty, ByteArray.empty, ByteArray.empty, false⟩
def lnAt (ls : List Ln) (i : Nat) : Ln := ls.getD i l0
/-- a line, hurt -/
def hurtL (l : Ln) (a b : Int) : Ln := if l.h = true then l else ⟨hurtT l.p a b, hurtT l.q a b, hurtT l.r a b, true⟩
/-- a line that is written, by how it goes -/
def stepL (p q r : ByteArray) (k a b : Int) : Ln := if hurtsB k = true then ⟨hurtT p a b, hurtT q a b, hurtT r a b, true⟩ else ⟨p, q, r, false⟩
/-- a line as it is read -/
def lnTold (s : St) (ls : List Ln) (i : Nat) : Ln := if isFog s (3 * i) = true then hurtL (lnAt ls i) 0 0 else lnAt ls i
/-- a page as it lies -/
def lieT (s : St) (j : Nat) : ByteArray := if pageAt s j = ByteArray.empty then blankS s.Y else pageAt s j

/-- the code's lines are those of s -/
structure AbsC (s : St) (ls : List Ln) : Prop where
  len : ls.length = s.L
  size : ∀ i t, ((lnAt ls i).pt t).size ≤ 400
  one : ∀ i, i < s.L → (lnAt ls i).p = lieT s (3 * i) ∧ (lnAt ls i).h = s.hs.getD (3 * i) false
  all : s.mode ≠ 1 → ∀ i t, i < s.L → t < 3 → (lnAt ls i).pt t = lieT s (3 * i + t) ∧ (lnAt ls i).h = s.hs.getD (3 * i + t) false
  full : ∀ j, s.hs.getD j false = true → ¬ pageAt s j = ByteArray.empty
  zero : s.mode = 0 → s.done = 0
  fog : s.mode = 2 → ∀ i t, i < s.L → t < 3 → afterC s.L s.done i = 1 → ¬ pageAt s (3 * i + t) = ByteArray.empty

theorem fog_at (s : St) (i t : Nat) (ht : t < 3) : isFog s (3 * i + t) = isFog s (3 * i) := by
  unfold isFog
  rw [show (3 * i + t) / 3 = i by omega, show 3 * i / 3 = i by omega]
theorem hurtL_pt (l : Ln) (a b : Int) (t : Nat) : (hurtL l a b).pt t = if l.h = true then l.pt t else hurtT (l.pt t) a b := by
  unfold hurtL
  split
  · rfl
  · match t with
    | 0 => rfl
    | 1 => rfl
    | _ + 2 => rfl
theorem hurtL_h (l : Ln) (a b : Int) : (hurtL l a b).h = true := by
  unfold hurtL
  split
  · assumption
  · rfl
theorem stepL_pt (p q r : ByteArray) (k a b : Int) : (stepL p q r k a b).p = pageT p k a b ∧ (stepL p q r k a b).q = pageT q k a b ∧ (stepL p q r k a b).r = pageT r k a b ∧ (stepL p q r k a b).h = hurtsB k := by
  unfold stepL pageT
  split
  · rename_i h; exact ⟨rfl, rfl, rfl, h.symm⟩
  · rename_i h; exact ⟨rfl, rfl, rfl, by simpa using h⟩
theorem lnAt_set (ls : List Ln) (i j : Nat) (l : Ln) (hi : i < ls.length) : lnAt (ls.set i l) j = if j = i then l else lnAt ls j := by
  unfold lnAt
  simp only [List.getD_eq_getElem?_getD, List.getElem?_set]
  by_cases e : i = j
  · subst e; rw [if_pos rfl, if_pos hi, if_pos rfl]; rfl
  · rw [if_neg e, if_neg (Ne.symm e)]
theorem fullT {s : St} {p : ByteArray} (h : takesB s p = true) (k a b : Int) : ¬ pageT p k a b = ByteArray.empty := by
  intro he
  have h1 := pageT_size p k a b
  unfold takesB at h
  simp at h
  rw [he, h] at h1
  have : (ByteArray.empty).size = 0 := rfl
  unfold rawOf at h1
  omega

theorem AbsC.same {s t : St} {ls : List Ln} (h : AbsC s ls) (h1 : t.L = s.L) (h2 : t.Y = s.Y) (h3 : t.mode = s.mode) (h4 : t.done = s.done) (h5 : t.ps = s.ps) (h6 : t.hs = s.hs) : AbsC t ls := by
  obtain ⟨L, Y, mode, done, bad, torn, slc, tlc, ps, hs⟩ := s
  obtain ⟨L', Y', mode', done', bad', torn', slc', tlc', ps', hs'⟩ := t
  simp only at h1 h2 h3 h4 h5 h6
  subst h1 h2 h3 h4 h5 h6
  obtain ⟨a1, a2, a3, a4, a5, a6, a7⟩ := h
  exact ⟨a1, a2, a3, a4, a5, a6, a7⟩
theorem AbsC.ended {s : St} {ls : List Ln} (h : AbsC s ls) (k : Int) : AbsC (endSt s k) ls := by
  have e1 := end_same s k
  have e2 := endSt_ps s k
  exact h.same e1.1 e1.2.1 e1.2.2.1 e1.2.2.2 e2.1 e2.2

/-- at first -/
theorem AbsC.fresh {s : St} (hw : WfSt s) (h0 : s.mode = 0) (hd : s.done = 0) (hp : ∀ j, pageAt s j = ByteArray.empty) (hh : ∀ j, s.hs.getD j false = false) :
    AbsC s (List.replicate s.L ⟨blankS s.Y, blankS s.Y, blankS s.Y, false⟩) := by
  have hbl : (blankS s.Y).size ≤ 400 := by rw [blankS_size]; obtain ⟨h1, h2, h3⟩ := hw.y; omega
  have hl : ∀ i, i < s.L → lnAt (List.replicate s.L ⟨blankS s.Y, blankS s.Y, blankS s.Y, false⟩) i = ⟨blankS s.Y, blankS s.Y, blankS s.Y, false⟩ := by
    intro i hi
    unfold lnAt
    rw [List.getD_eq_getElem?_getD, List.getElem?_replicate, if_pos hi]; rfl
  refine ⟨by simp, fun i t => ?_, fun i hi => ?_, fun _ i t hi ht => ?_, fun j hj => ?_, fun _ => hd, fun h2 => ?_⟩
  · by_cases hi : i < s.L
    · rw [hl i hi]
      match t with
      | 0 => exact hbl
      | 1 => exact hbl
      | _ + 2 => exact hbl
    · unfold lnAt
      rw [List.getD_eq_getElem?_getD, List.getElem?_replicate, if_neg hi]
      match t with
      | 0 => exact Nat.zero_le _
      | 1 => exact Nat.zero_le _
      | _ + 2 => exact Nat.zero_le _
  · rw [hl i hi, hh]
    unfold lieT
    rw [if_pos (hp _)]
    exact ⟨rfl, rfl⟩
  · rw [hl i hi, hh]
    unfold lieT
    rw [if_pos (hp _)]
    refine ⟨?_, rfl⟩
    match t with
    | 0 => rfl
    | 1 => rfl
    | _ + 2 => rfl
  · rw [hh] at hj; cases hj
  · rw [h0] at h2; cases h2

/-- what is read -/
theorem AbsC.read1 {s : St} {ls : List Ln} (h : AbsC s ls) (i t : Nat) (hi : i < s.L) (ht : t < 3) (hm : s.mode ≠ 1 ∨ t = 0) : (lnTold s ls i).pt t = atT s (3 * i + t) ∧ (lnTold s ls i).h = atH s (3 * i + t) := by
  have hb : (lnAt ls i).pt t = lieT s (3 * i + t) ∧ (lnAt ls i).h = s.hs.getD (3 * i + t) false := by
    rcases hm with hm | rfl
    · exact h.all hm i t hi ht
    · exact h.one i hi
  have hfull := h.full (3 * i + t)
  have hfog : isFog s (3 * i) = true → ¬ pageAt s (3 * i + t) = ByteArray.empty := by
    intro hf
    unfold isFog at hf
    rw [Bool.and_eq_true, beq_iff_eq, beq_iff_eq, show 3 * i / 3 = i by omega] at hf
    exact h.fog hf.1 i t hi ht hf.2
  unfold lnTold atT atH
  rw [fog_at s i t ht]
  unfold lieT at hb
  by_cases he : pageAt s (3 * i + t) = ByteArray.empty
  · have hf : isFog s (3 * i) = false := by
      cases hq : isFog s (3 * i)
      · rfl
      · exact absurd he (hfog hq)
    have hh : s.hs.getD (3 * i + t) false = false := by
      cases hq : s.hs.getD (3 * i + t) false
      · rfl
      · exact absurd he (hfull hq)
    rw [if_pos he] at hb
    rw [hf, if_neg (by simp), if_pos he, if_pos he, hb.1, hb.2, hh]
    exact ⟨rfl, rfl⟩
  · rw [if_neg he] at hb
    rw [if_neg he, if_neg he]
    cases hh : s.hs.getD (3 * i + t) false with
    | true =>
      rw [hh] at hb
      rw [if_pos rfl, if_pos rfl]
      split
      · rw [hurtL_pt, if_pos hb.2, hb.1, hurtL_h]; exact ⟨rfl, rfl⟩
      · exact hb
    | false =>
      rw [hh] at hb
      cases hf : isFog s (3 * i) with
      | true =>
        simp only [Bool.false_eq_true, if_false, if_true]
        rw [hurtL_pt, hb.2, if_neg (by simp), hb.1, hurtL_h]; exact ⟨rfl, rfl⟩
      | false =>
        simp only [Bool.false_eq_true, if_false]
        exact hb

/-- .. what is programmed -/
theorem AbsC.prog {s : St} {ls : List Ln} (h : AbsC s ls) (hw : WfSt s) {line : Int} {p : ByteArray} (hok : ProgOk s line p) (k a b : Int) :
    AbsC (progSt s line p k a b) (ls.set line.toNat (stepL p ByteArray.empty ByteArray.empty k a b)) := by
  unfold progSt
  rw [if_pos hok]
  obtain ⟨k1, k2, k3, k4, k5, k6⟩ := hok
  apply AbsC.ended
  obtain ⟨n, hn⟩ : ∃ n, line.toNat = n := ⟨_, rfl⟩
  rw [hn]
  have hnL : n < s.L := by omega
  have hst := stepL_pt p ByteArray.empty ByteArray.empty k a b
  have hps : 3 * n < (stepSt s 1).ps.length := by show 3 * n < s.ps.length; rw [hw.psl]; omega
  have hhs : 3 * n < (stepSt s 1).hs.length := by show 3 * n < s.hs.length; rw [hw.hsl]; omega
  have hpg := fun j => put_page (stepSt s 1) (3 * n) j (pageT p k a b) (hurtsB k) hps
  have hmk := fun j => put_mark (stepSt s 1) (3 * n) j (pageT p k a b) (hurtsB k) hhs
  have hln := fun j => lnAt_set ls n j (stepL p ByteArray.empty ByteArray.empty k a b) (by rw [h.len]; exact hnL)
  have hfl := fullT k6 k a b
  have hsz := takes_size hw k6
  have he0 : ∀ k a b, (pageT ByteArray.empty k a b).size ≤ 400 := fun k a b => by rw [pageT_size]; exact Nat.zero_le _
  refine ⟨by simp [putSt, stepSt, h.len], fun i t => ?_, fun i hi => ?_, fun hm => absurd rfl hm, fun j hj => ?_, fun hm => absurd (show (1 : Int) = 0 from hm) (by decide), fun hm => absurd (show (1 : Int) = 2 from hm) (by decide)⟩
  · rw [hln]
    split
    · match t with
      | 0 => show (stepL _ _ _ _ _ _).p.size ≤ 400; rw [hst.1, pageT_size]; exact hsz
      | 1 => show (stepL _ _ _ _ _ _).q.size ≤ 400; rw [hst.2.1]; exact he0 _ _ _
      | _ + 2 => show (stepL _ _ _ _ _ _).r.size ≤ 400; rw [hst.2.2.1]; exact he0 _ _ _
    · exact h.size i t
  · have hi2 : i < s.L := hi
    unfold lieT
    rw [hln, hpg, hmk]
    by_cases e : i = n
    · subst e
      simp only [if_true, hfl, if_false]
      exact ⟨hst.1, hst.2.2.2⟩
    · have e3 : ¬ 3 * i = 3 * n := by omega
      simp only [e, e3, if_false]
      exact h.one i hi2
  · rw [hpg]
    rw [hmk] at hj
    split
    · exact hfl
    · rename_i e
      rw [if_neg e] at hj
      exact h.full j hj

theorem put3_three (s : St) (i : Nat) (p q r : ByteArray) (k a b : Int) (j : Nat) (h1 : i + 2 < s.ps.length) (h2 : i + 2 < s.hs.length) :
    pageAt (put3 s i p q r k a b 3) j = (if j = i + 2 then pageT r k a b else if j = i + 1 then pageT q k a b else if j = i then pageT p k a b else pageAt s j)
    ∧ (put3 s i p q r k a b 3).hs.getD j false = (if j = i + 2 ∨ j = i + 1 ∨ j = i then hurtsB k else s.hs.getD j false) := by
  show pageAt (putSt (putSt (putSt s i (pageT p k a b) (hurtsB k)) (i + 1) (pageT q k a b) (hurtsB k)) (i + 2) (pageT r k a b) (hurtsB k)) j = _
    ∧ (putSt (putSt (putSt s i (pageT p k a b) (hurtsB k)) (i + 1) (pageT q k a b) (hurtsB k)) (i + 2) (pageT r k a b) (hurtsB k)).hs.getD j false = _
  rw [put_page _ _ _ _ _ (by simp [putSt]; omega), put_page _ _ _ _ _ (by simp [putSt]; omega), put_page _ _ _ _ _ (by omega),
    put_mark _ _ _ _ _ (by simp [putSt]; omega), put_mark _ _ _ _ _ (by simp [putSt]; omega), put_mark _ _ _ _ _ (by omega)]
  refine ⟨rfl, ?_⟩
  by_cases e2 : j = i + 2
  · rw [if_pos e2, if_pos (Or.inl e2)]
  · rw [if_neg e2]
    by_cases e1 : j = i + 1
    · rw [if_pos e1, if_pos (Or.inr (Or.inl e1))]
    · rw [if_neg e1]
      by_cases e0 : j = i
      · rw [if_pos e0, if_pos (Or.inr (Or.inr e0))]
      · rw [if_neg e0, if_neg (by omega)]

/-- .. in two passes -/
theorem AbsC.two {s : St} {ls : List Ln} (h : AbsC s ls) (hw : WfSt s) {line : Int} {p q r : ByteArray} {f : Bool} (hok : TwoOk s line p q r f) (k a b : Int) :
    AbsC (twoSt s line p q r f k a b) (ls.set line.toNat (stepL p q r k a b)) := by
  unfold twoSt
  rw [if_pos hok]
  obtain ⟨k1, k2, k3, k4, k5, k6, k7, k8, k9, k10⟩ := hok
  apply AbsC.ended
  obtain ⟨n, hn⟩ : ∃ n, line.toNat = n := ⟨_, rfl⟩
  rw [hn]
  have hst1 := place_step k4
  have hn1 : (stepC s.L s.done).1 = n := by omega
  have hnL : n < s.L := by omega
  have hst := stepL_pt p q r k a b
  have hps : 3 * n + 2 < (stepSt s 2).ps.length := by show 3 * n + 2 < s.ps.length; rw [hw.psl]; omega
  have hhs : 3 * n + 2 < (stepSt s 2).hs.length := by show 3 * n + 2 < s.hs.length; rw [hw.hsl]; omega
  have hpt := fun j => put3_three (stepSt s 2) (3 * n) p q r k a b j hps hhs
  obtain ⟨S, hS⟩ : ∃ S, put3 (stepSt s 2) (3 * n) p q r k a b 3 = S := ⟨_, rfl⟩
  have hSf : S.L = s.L ∧ S.Y = s.Y ∧ S.mode = 2 ∧ S.done = s.done + 1 := by rw [← hS]; exact ⟨rfl, rfl, rfl, rfl⟩
  rw [hS] at hpt ⊢
  have hln := fun j => lnAt_set ls n j (stepL p q r k a b) (by rw [h.len]; exact hnL)
  have f7 := fullT k7 k a b
  have f8 := fullT k8 k a b
  have f9 := fullT k9 k a b
  have s7 := takes_size hw k7
  have s8 := takes_size hw k8
  have s9 := takes_size hw k9
  have hps0 : ∀ j, pageAt (stepSt s 2) j = pageAt s j := fun _ => rfl
  have hhs0 : ∀ j, (stepSt s 2).hs.getD j false = s.hs.getD j false := fun _ => rfl
  have hall : ∀ i t, i < s.L → t < 3 → (lnAt (ls.set n (stepL p q r k a b)) i).pt t = lieT S (3 * i + t) ∧ (lnAt (ls.set n (stepL p q r k a b)) i).h = S.hs.getD (3 * i + t) false := by
    intro i t hi ht
    unfold lieT
    rw [hln, (hpt _).1, (hpt _).2, hSf.2.1]
    by_cases e : i = n
    · subst e
      rw [if_pos rfl]
      match t, ht with
      | 0, _ =>
        have b2 : ¬ 3 * i = 3 * i + 2 := by omega
        have b1 : ¬ 3 * i = 3 * i + 1 := by omega
        simp only [Nat.add_zero, b2, b1, if_false, if_true, false_or, f7]
        exact ⟨hst.1, hst.2.2.2⟩
      | 1, _ =>
        have b2 : ¬ 3 * i + 1 = 3 * i + 2 := by omega
        simp only [b2, if_false, if_true, false_or, true_or, f8]
        exact ⟨hst.2.1, hst.2.2.2⟩
      | 2, _ =>
        simp only [if_true, if_false, true_or, f9]
        exact ⟨hst.2.2.1, hst.2.2.2⟩
    · have a2 : ¬ 3 * i + t = 3 * n + 2 := by omega
      have a1 : ¬ 3 * i + t = 3 * n + 1 := by omega
      have a0 : ¬ 3 * i + t = 3 * n := by omega
      simp only [e, a2, a1, a0, or_self, if_false]
      exact h.all k3 i t hi ht
  refine ⟨by simp [hSf.1, h.len], fun i t => ?_, fun i hi => ?_, fun _ i t hi ht => hall i t (by rw [← hSf.1]; exact hi) ht, fun j hj => ?_, fun hm => absurd (hm.symm.trans hSf.2.2.1) (by decide), fun _ i t hi ht haf => ?_⟩
  · rw [hln]
    split
    · match t with
      | 0 => show (stepL _ _ _ _ _ _).p.size ≤ 400; rw [hst.1, pageT_size]; exact s7
      | 1 => show (stepL _ _ _ _ _ _).q.size ≤ 400; rw [hst.2.1, pageT_size]; exact s8
      | _ + 2 => show (stepL _ _ _ _ _ _).r.size ≤ 400; rw [hst.2.2.1, pageT_size]; exact s9
    · exact h.size i t
  · exact hall i 0 (by rw [← hSf.1]; exact hi) (by omega)
  · rw [(hpt j).2] at hj
    rw [(hpt j).1]
    by_cases e : j = 3 * n + 2 ∨ j = 3 * n + 1 ∨ j = 3 * n
    · split
      · exact f9
      · split
        · exact f8
        · split
          · exact f7
          · omega
    · rw [if_neg e, hhs0] at hj
      have a2 : ¬ j = 3 * n + 2 := by omega
      have a1 : ¬ j = 3 * n + 1 := by omega
      have a0 : ¬ j = 3 * n := by omega
      simp only [a2, a1, a0, if_false, hps0]
      exact h.full j hj
  · rw [hSf.1] at hi
    rw [hSf.1, hSf.2.2.2, after_succ k4 hi, hn1] at haf
    rw [(hpt _).1]
    by_cases e : i = n
    · subst e
      match t, ht with
      | 0, _ =>
        have b2 : ¬ 3 * i = 3 * i + 2 := by omega
        have b1 : ¬ 3 * i = 3 * i + 1 := by omega
        simp only [Nat.add_zero, b2, b1, if_false, if_true]; exact f7
      | 1, _ =>
        have b2 : ¬ 3 * i + 1 = 3 * i + 2 := by omega
        simp only [b2, if_false, if_true]; exact f8
      | 2, _ =>
        simp only [if_true]; exact f9
    · rw [if_neg (Ne.symm e)] at haf
      have a2 : ¬ 3 * i + t = 3 * n + 2 := by omega
      have a1 : ¬ 3 * i + t = 3 * n + 1 := by omega
      have a0 : ¬ 3 * i + t = 3 * n := by omega
      simp only [a2, a1, a0, if_false, hps0]
      rcases hw.mode with h0 | h0 | h0
      · rw [h.zero h0, after_none] at haf
        exact absurd haf (by decide)
      · exact absurd h0 k3
      · exact h.fog h0 i t hi ht haf

theorem blankS_full {n : Nat} (h : LenOk n) : ¬ blankS n = ByteArray.empty := by
  have h1 := blankS_size n
  obtain ⟨h2, _, _⟩ := h
  exact full_of_size (n := (n + 24) / 8 * 9 - 1) (by omega)
theorem hurtT_full {p : ByteArray} (a b : Int) (h : ¬ p = ByteArray.empty) : ¬ hurtT p a b = ByteArray.empty := by
  intro he
  have h1 := hurtT_size p a b
  rw [he] at h1
  exact h (ByteArray.size_eq_zero_iff.1 h1.symm)
theorem atT_full {s : St} (hw : WfSt s) (j : Nat) : ¬ atT s j = ByteArray.empty := by
  unfold atT
  split
  · exact blankS_full hw.y
  · rename_i h
    split
    · exact h
    · split
      · exact hurtT_full 0 0 h
      · exact h
theorem ruinT_full {s : St} (hw : WfSt s) (a b k : Int) (j : Nat) : ¬ ruinT s a b k j = ByteArray.empty := by
  unfold ruinT pageT
  split
  · exact atT_full hw j
  · split
    · exact hurtT_full a b (atT_full hw j)
    · exact atT_full hw j
theorem more_all (s : St) : (moreSt s).L = s.L ∧ (moreSt s).Y = s.Y ∧ (moreSt s).ps = s.ps ∧ (moreSt s).hs = s.hs ∧ (moreSt s).mode = s.mode ∧ (moreSt s).done = s.done := by
  unfold moreSt
  split <;> exact ⟨rfl, rfl, rfl, rfl, rfl, rfl⟩
theorem AbsC.more {s : St} {ls : List Ln} (h : AbsC s ls) : AbsC (moreSt s) ls := by
  have e := more_all s
  exact h.same e.1 e.2.1 e.2.2.2.2.1 e.2.2.2.2.2 e.2.2.1 e.2.2.2.1
theorem slc_all (s : St) : (slcSt s).L = s.L ∧ (slcSt s).Y = s.Y ∧ (slcSt s).ps = s.ps ∧ (slcSt s).hs = s.hs ∧ (slcSt s).mode = (if s.mode = 0 then 1 else s.mode) ∧ (slcSt s).done = s.done := by
  unfold slcSt
  split <;> exact ⟨rfl, rfl, rfl, rfl, rfl, rfl⟩
theorem ruin_all (s t : St) (a b k : Int) : ∀ n, (ruinTo s t a b k n).L = t.L ∧ (ruinTo s t a b k n).Y = t.Y ∧ (ruinTo s t a b k n).mode = t.mode ∧ (ruinTo s t a b k n).done = t.done
  | 0 => ⟨rfl, rfl, rfl, rfl⟩
  | n + 1 => ruin_all s t a b k n
theorem lnTold_size {s : St} {ls : List Ln} (h : AbsC s ls) (i t : Nat) : ((lnTold s ls i).pt t).size ≤ 400 := by
  unfold lnTold
  split
  · rw [hurtL_pt]
    split
    · exact h.size i t
    · rw [hurtT_size]; exact h.size i t
  · exact h.size i t
/-- .. and what is erased, cut or failing -/
theorem AbsC.ruin {s : St} {ls ls' : List Ln} (h : AbsC s ls) (hw : WfSt s) (hb : s.bad = false) (k a b : Int) (hk : hurtsB k = true) (hl : ls'.length = s.L) (hln : ∀ i, i < s.L → lnAt ls' i = hurtL (lnTold s ls i) a b) :
    AbsC (eraseSt s k a b) ls' := by
  unfold eraseSt
  rw [if_neg (by rw [hb]; simp), if_pos hk]
  apply AbsC.ended
  have hma := more_all s
  have hM : AbsC (moreSt s) ls := h.more
  have hat : ∀ j, atT (moreSt s) j = atT s j ∧ atH (moreSt s) j = atH s j := by
    intro j
    unfold atT atH isFog pageAt
    rw [hma.1, hma.2.1, hma.2.2.1, hma.2.2.2.1, hma.2.2.2.2.1, hma.2.2.2.2.2]
    exact ⟨rfl, rfl⟩
  have hwm : ∀ j, ¬ ruinT (moreSt s) a b k j = ByteArray.empty := by
    intro j
    unfold ruinT pageT
    rw [(hat j).1, (hat j).2, if_pos hk]
    split
    · exact atT_full hw j
    · exact hurtT_full a b (atT_full hw j)
  have hru : ∀ j, ruinT (moreSt s) a b k j = if atH s j = true then atT s j else hurtT (atT s j) a b := by
    intro j
    unfold ruinT pageT
    rw [(hat j).1, (hat j).2, if_pos hk]
  obtain ⟨R, hR⟩ : ∃ R, ruinTo (moreSt s) (moreSt s) a b k (3 * s.L) = R := ⟨_, rfl⟩
  have hRa := ruin_all (moreSt s) (moreSt s) a b k (3 * s.L)
  have hRp := fun j => ruin_page (moreSt s) (moreSt s) a b k j (3 * s.L) (by rw [hma.2.2.1, hw.psl]; exact Nat.le_refl _) (by rw [hma.2.2.2.1, hw.hsl]; exact Nat.le_refl _)
  have hRl := ruin_lens (moreSt s) (moreSt s) a b k (3 * s.L)
  rw [hR] at hRa hRp hRl ⊢
  have hSa := slc_all R
  have hRL : R.L = s.L := hRa.1.trans hma.1
  have hpp : ∀ j, j < 3 * s.L → pageAt (slcSt R) j = ruinT (moreSt s) a b k j ∧ (slcSt R).hs.getD j false = true := by
    intro j hj
    unfold pageAt
    rw [hSa.2.2.1, hSa.2.2.2.1]
    exact hRp j hj
  have hml : (slcSt R).mode = if s.mode = 0 then 1 else s.mode := by rw [hSa.2.2.2.2.1, hRa.2.2.1, hma.2.2.2.2.1]
  have hLL : (slcSt R).L = s.L := hSa.1.trans hRL
  have key : ∀ i t, i < s.L → t < 3 → (s.mode ≠ 1 ∨ t = 0) → (lnAt ls' i).pt t = lieT (slcSt R) (3 * i + t) ∧ (lnAt ls' i).h = (slcSt R).hs.getD (3 * i + t) false := by
    intro i t hi ht hm
    have hrd := h.read1 i t hi ht hm
    have hp := hpp (3 * i + t) (by omega)
    unfold lieT
    rw [hln i hi, hurtL_pt, hurtL_h, hp.1, hp.2, if_neg (hwm _), hru, hrd.1, hrd.2]
    exact ⟨rfl, rfl⟩
  refine ⟨hl.trans hLL.symm, fun i t => ?_, fun i hi => key i 0 (by rw [← hLL]; exact hi) (by omega) (Or.inr rfl), fun hm i t hi ht => key i t (by rw [← hLL]; exact hi) ht (Or.inl fun h1 => hm (by rw [hml, h1]; rfl)), fun j hj => ?_, fun h0 => ?_, fun _ i t hi ht _ => ?_⟩
  · by_cases hi : i < s.L
    · rw [hln i hi, hurtL_pt]
      split
      · exact lnTold_size h i t
      · rw [hurtT_size]; exact lnTold_size h i t
    · have he : lnAt ls' i = l0 := by
        unfold lnAt
        rw [List.getD_eq_getElem?_getD, List.getElem?_eq_none (by omega)]; rfl
      rw [he]
      match t with
      | 0 => exact Nat.zero_le _
      | 1 => exact Nat.zero_le _
      | _ + 2 => exact Nat.zero_le _
  · by_cases hj3 : j < 3 * s.L
    · rw [(hpp j hj3).1]; exact hwm j
    · exfalso
      rw [hSa.2.2.2.1, List.getD_eq_getElem?_getD, List.getElem?_eq_none (by rw [hRl.2, hma.2.2.2.1, hw.hsl]; omega)] at hj
      cases hj
  · exfalso
    rw [hml] at h0
    split at h0
    · cases h0
    · contradiction
  · rw [(hpp _ (by rw [hLL] at hi; omega)).1]; exact hwm _
/-- .. and where it goes well -/
theorem AbsC.clean {s : St} (hw : WfSt s) (hb : s.bad = false) (k a b : Int) (hk : hurtsB k = false) (h1 : s.slc < 1000000000) (h2 : s.tlc < 1000000000) :
    AbsC (eraseSt s k a b) (List.replicate s.L ⟨blankS s.Y, blankS s.Y, blankS s.Y, false⟩) := by
  have hwe := eraseSt_wf hw k a b h1 h2
  have he : eraseSt s k a b = { newSt s.L s.Y with slc := (moreSt s).slc, tlc := (moreSt s).tlc } := by
    unfold eraseSt
    rw [if_neg (by rw [hb]; simp), if_neg (by rw [hk]; simp)]
  rw [he] at hwe ⊢
  refine AbsC.fresh (s := { newSt s.L s.Y with slc := (moreSt s).slc, tlc := (moreSt s).tlc }) hwe rfl rfl (fun j => ?_) (fun j => ?_)
  · unfold pageAt newSt
    simp only [List.getD_eq_getElem?_getD, List.getElem?_replicate]
    split <;> rfl
  · unfold newSt
    simp only [List.getD_eq_getElem?_getD, List.getElem?_replicate]
    split <;> rfl
theorem AbsC.new {l y : Nat} (hw : WfSt (newSt l y)) : AbsC (newSt l y) (List.replicate l ⟨blankS y, blankS y, blankS y, false⟩) := by
  refine AbsC.fresh (s := newSt l y) hw rfl rfl (fun j => ?_) (fun j => ?_)
  · unfold pageAt newSt
    simp only [List.getD_eq_getElem?_getD, List.getElem?_replicate]
    split <;> rfl
  · unfold newSt
    simp only [List.getD_eq_getElem?_getD, List.getElem?_replicate]
    split <;> rfl

end Go.Proofs.YtjmoecfgpfdncaaGreatDoor

/- Calls that change a cell of the code's: what else they leave as it was. -/
namespace Go.Proofs.YtjmoecfgpfdncaaGreatDoor
set_option maxRecDepth 100000
open Go.RowKit

/-- nothing that was there turns but for blocks of F -/
structure Only (F : Nat → Prop) (w w' : World) : Prop where
  os : w'.os = w.os
  tape : w'.tape = w.tape
  output : w'.output = w.output
  size : w.heap.size ≤ w'.heap.size
  block : ∀ k, k < w.heap.size → ¬ F k → w'.heap[k]? = w.heap[k]?
theorem Only.refl (F : Nat → Prop) (w : World) : Only F w w := ⟨rfl, rfl, rfl, Nat.le_refl _, fun _ _ _ => rfl⟩
theorem Only.of_below {F : Nat → Prop} {w w' : World} (h : Below w.heap.size w w') : Only F w w' := ⟨h.os, h.tape, h.output, h.size, fun k hk _ => h.block k hk⟩
theorem Only.below {F : Nat → Prop} {w w' : World} {B : Nat} (h : Only F w w') (hB : B ≤ w.heap.size) (hF : ∀ k, F k → B ≤ k) : Below B w w' :=
  ⟨h.os, h.tape, h.output, h.size, fun k hk => h.block k (by omega) (fun hf => by have := hF k hf; omega)⟩
theorem Only.trans {F F' : Nat → Prop} {w w' w'' : World} (h : Only F w w') (h' : Only F' w' w'') (hF : ∀ k, F' k → F k ∨ w.heap.size ≤ k) : Only F w w'' :=
  ⟨h'.os.trans h.os, h'.tape.trans h.tape, h'.output.trans h.output, Nat.le_trans h.size h'.size, fun k hk hn =>
    (h'.block k (by have := h.size; omega) (fun hf => (hF k hf).elim hn (fun h2 => by omega))).trans (h.block k hk hn)⟩
theorem Blk.only {F : Nat → Prop} {w w' : World} {b : Nat} {cs : Array Value} {t : TypeId} (h : Blk w b cs t) (ho : Only F w w') (hb : ¬ F b) : Blk w' b cs t := by
  have hl := h.lt
  unfold Blk at *
  rw [ho.block b hl hb]; exact h
theorem RAt.only {F : Nat → Prop} {w w' : World} {s : St} {g c h d : Nat} (hr : RAt w s g c h d) (hw : WfSt s) (ho : Only F w w') (hg : ¬ F g) (hh : ¬ F h) : RAt w' s g c h d :=
  hr.keep (ho.block g (hr.lt hw).1 hg) (ho.block h (hr.lt hw).2 hh)
/-- where a cell's blocks go: they stay, or are new -/
def Grows (F F' : Nat → Prop) (w : World) : Prop := ∀ k, F' k → F k ∨ w.heap.size ≤ k

end Go.Proofs.YtjmoecfgpfdncaaGreatDoor

/- Contracts of package bits, as far as later layers lean on them: Zeros, Flip. -/
namespace Go.Proofs.YtjmoecfgpfdncaaGreatDoor
set_option maxRecDepth 100000
open Go.RowKit

def ZOnesPost (n : Nat) (w : World) (e : Ending) (w' : World) : Prop := e = .returned (.int .i64 (pop8 n)) ∧ w = w'

set_option maxRecDepth 1000000 in
theorem zones_any (x : Int) (w : World) (h0 : 0 ≤ x) (h1 : x ≤ 255) :
    Calls Tryz.prog 102 #[.int .u8 x] w (ZOnesPost x.toNat w) := by
  go_enter Tryz.func102, Tryz.ntmps102
  go_wp2
  go_ret
  refine ⟨ret_int ?_, rfl⟩
  have hn : x.toNat < 256 := by omega
  rw [← getElem!_pos]
  generalize x.toNat = n at hn
  clear h0 h1
  revert n
  decide +kernel


theorem zxor_not (c : UInt8) : bits .xor .u8 IntKind.u8.max (c.toNat : Int) = 255 - (c.toNat : Int) := by
  have h : ∀ n : Nat, n < 256 → bits .xor .u8 IntKind.u8.max (n : Int) = 255 - (n : Int) := by decide +kernel
  exact h _ c.toNat_lt

theorem zones_not (c : UInt8) (w : World) :
    Calls Tryz.prog 102 #[.int .u8 (bits .xor .u8 IntKind.u8.max (c.toNat : Int))] w (ZOnesPost (255 - c.toNat) w) := by
  have hb : c.toNat < 256 := c.toNat_lt
  have h := zones_any (255 - (c.toNat : Int)) w (by omega) (by omega)
  rw [zxor_not, show 255 - c.toNat = (255 - (c.toNat : Int)).toNat by omega]; exact h


theorem flip_no (s : ByteArray) (k : Int) (w : World) (hm : s.size ≤ maxLen) (hk : k ≤ 9223372036854775807) (h : k < 0 ∨ (s.size : Int) ≤ k / 8) :
    Calls Tryz.prog 94 #[.string s, .int .i64 k] w fun e w' => e = .returned (.tuple #[.string ByteArray.empty, .int .i64 1]) ∧ w = w' := by
  have hm2 : (s.size : Int) ≤ 9223372036854775807 := by unfold maxLen at hm; omega
  clear hm
  rcases h with h | h
  · go_enter Tryz.func94, Tryz.ntmps94
    go_wp2
    go_ret2
    exact ⟨rfl, rfl⟩
  · have h' : 0 ≤ k := by omega
    go_enter Tryz.func94, Tryz.ntmps94
    go_wp2
    go_ret2
    exact ⟨rfl, rfl⟩


theorem flip_yes (s : ByteArray) (i j : Nat) (w : World) (hm : s.size ≤ 1000) (hi : i < s.size) (hj : j < 8) :
    Calls Tryz.prog 94 #[.string s, .int .i64 (8 * (i : Int) + j)] w fun e w' => e = .returned (.tuple #[.string (flipS s i j), .int .i64 0]) ∧ Below w.heap.size w w' := by
  have hq : (8 * (i : Int) + j) / 8 = i := by omega
  have hr : (8 * (i : Int) + j) % 8 = j := by omega
  obtain ⟨cap, W1, hcv, hb1, hcs, hfz, _⟩ := bytes_of (P := Tryz.prog) (src := 9) (dst := 87) (e := 5) Tryz.underlying9 Tryz.underlying87 Tryz.underlying5 s w
  obtain ⟨c, hcc⟩ : ∃ c, (nums s).getD i 0 = c := ⟨_, rfl⟩
  have hc := hcs i (by rw [nums_length]; exact hi)
  rw [hcc] at hc
  have hf := hfz i hi
  have hcb := fun x : Int => (BytesAt.drew (hcs.set i x)).conv (P := Tryz.prog) (src := 87) (e := 5) (dst := 9) Tryz.underlying87 Tryz.underlying5 Tryz.underlying9 s.size cap (len_set _ _ _ _ (nums_length s))
  have HC := Lib.hid hcc
  have HB := Lib.hid hb1
  clear hcs hfz hcc hb1
  go_enter Tryz.func94, Tryz.ntmps94
  go_wp2
  go_region
  go_wp2
  go_ret2
  exact ⟨ret_str (by unfold flipS; rw [HC.out]), (HB.out.setCell (Nat.le_refl _) _).drew⟩


end Go.Proofs.YtjmoecfgpfdncaaGreatDoor

/-
  DERIVED: THE SHELF's CONTRACTS AT THIS DUMP, IN PLAIN WORDS (tools/lay-plain.mjs out of 'YtjmoecfgpfdncaaGreatDoorShelf.lean', which tools/lay-shelf.mjs wrote): THE SAME DECLARATIONS UNDER THE SAME NAMES: 'import', 'namespace', 'open', 'def', 'theorem' AND NOTHING ELSE: no command of the shelf's: FOR A HAND-IN. Each laying: the table of numbers ('.._ren') and one theorem, a field a fact of the dump's own or the kernel's comparison; each contract: ONE APPLICATION.
-/
namespace Go.Proofs
open Go.Shelf
def Tryz.lays105_ren : Go.Shelf.Ren := ⟨fun | 105 => 48 | 212 => 62 | 99 => 63 | 165 => 64 | 166 => 65 | 170 => 66 | 169 => 67 | 263 => 80 | 264 => 81 | 206 => 82 | 240 => 83 | 241 => 84 | 276 => 95 | 277 => 96 | n => n, fun | 9 => 9 | 3 => 3 | 4 => 4 | 20 => 20 | 0 => 0 | 46 => 95 | 109 => 96 | 5 => 5 | 72 => 101 | 76 => 105 | 51 => 123 | 146 => 124 | 53 => 126 | 148 => 127 | 70 => 99 | 37 => 87 | 75 => 104 | 127 => 129 | 164 => 139 | 80 => 107 | n => n, fun | n => n⟩
theorem Tryz.lays105 : Go.Proofs.Lays.n105 Tryz.prog Tryz.lays105_ren := {
  mixed := by kernel_rfl
  f99 := Tryz.func63.trans (congrArg some (by kernel_rfl))
  f105 := Tryz.func48.trans (congrArg some (by kernel_rfl))
  f165 := Tryz.func64.trans (congrArg some (by kernel_rfl))
  f166 := Tryz.func65.trans (congrArg some (by kernel_rfl))
  f169 := Tryz.func67.trans (congrArg some (by kernel_rfl))
  f170 := Tryz.func66.trans (congrArg some (by kernel_rfl))
  f206 := Tryz.func82.trans (congrArg some (by kernel_rfl))
  f212 := Tryz.func62.trans (congrArg some (by kernel_rfl))
  f240 := Tryz.func83.trans (congrArg some (by kernel_rfl))
  f241 := Tryz.func84.trans (congrArg some (by kernel_rfl))
  f263 := Tryz.func80.trans (congrArg some (by kernel_rfl))
  f264 := Tryz.func81.trans (congrArg some (by kernel_rfl))
  f276 := Tryz.func95.trans (congrArg some (by kernel_rfl))
  f277 := Tryz.func96.trans (congrArg some (by kernel_rfl))
  t0 := Tryz.underlying0
  a0 := Tryz.isAgg0
  z0 := Tryz.sizeOf0
  v0 := Tryz.zeroValue0
  t3 := Tryz.underlying3
  a3 := Tryz.isAgg3
  z3 := Tryz.sizeOf3
  v3 := Tryz.zeroValue3
  t4 := Tryz.underlying4
  a4 := Tryz.isAgg4
  z4 := Tryz.sizeOf4
  v4 := Tryz.zeroValue4
  t5 := Tryz.underlying5
  a5 := Tryz.isAgg5
  z5 := Tryz.sizeOf5
  v5 := Tryz.zeroValue5
  t9 := Tryz.underlying9
  a9 := Tryz.isAgg9
  z9 := Tryz.sizeOf9
  v9 := Tryz.zeroValue9
  t20 := Tryz.underlying20
  a20 := Tryz.isAgg20
  z20 := Tryz.sizeOf20
  v20 := Tryz.zeroValue20
  t37 := Tryz.underlying87
  a37 := Tryz.isAgg87
  z37 := Tryz.sizeOf87
  v37 := Tryz.zeroValue87
  t46 := Tryz.underlying95
  a46 := Tryz.isAgg95
  z46 := Tryz.sizeOf95
  v46 := Tryz.zeroValue95
  t51 := Tryz.underlying123
  a51 := Tryz.isAgg123
  z51 := Tryz.sizeOf123
  v51 := Tryz.zeroValue123
  t53 := Tryz.underlying126
  a53 := Tryz.isAgg126
  z53 := Tryz.sizeOf126
  v53 := Tryz.zeroValue126
  t70 := Tryz.underlying99
  a70 := Tryz.isAgg99
  z70 := Tryz.sizeOf99
  v70 := Tryz.zeroValue99
  t72 := Tryz.underlying101
  a72 := Tryz.isAgg101
  z72 := Tryz.sizeOf101
  v72 := Tryz.zeroValue101
  t75 := Tryz.underlying104
  a75 := Tryz.isAgg104
  z75 := Tryz.sizeOf104
  v75 := Tryz.zeroValue104
  t76 := Tryz.underlying105
  a76 := Tryz.isAgg105
  z76 := Tryz.sizeOf105
  v76 := Tryz.zeroValue105
  t109 := Tryz.underlying96
  a109 := Tryz.isAgg96
  z109 := Tryz.sizeOf96
  v109 := Tryz.zeroValue96
  t127 := Tryz.underlying129
  a127 := Tryz.isAgg129
  z127 := Tryz.sizeOf129
  v127 := Tryz.zeroValue129
  t146 := Tryz.underlying124
  a146 := Tryz.isAgg124
  z146 := Tryz.sizeOf124
  v146 := Tryz.zeroValue124
  t148 := Tryz.underlying127
  a148 := Tryz.isAgg127
  z148 := Tryz.sizeOf127
  v148 := Tryz.zeroValue127
  t164 := Tryz.underlying139
  a164 := Tryz.isAgg139
  z164 := Tryz.sizeOf139
  v164 := Tryz.zeroValue139 }
theorem Tryz.Builder_Extra_105 : Builder.Extra Tryz.prog Tryz.lays105_ren := {
  sizeBuilder := by kernel_rfl
  liesBuilder := by kernel_rfl
  t5 := Tryz.underlying5
  a5 := Tryz.isAgg5
  z5 := Tryz.sizeOf5
  v5 := Tryz.zeroValue5
  infoByte := by kernel_rfl
  cellsByte := by kernel_rfl
  sizeByte := by kernel_rfl
  neB5 := by decide }
end Go.Proofs
