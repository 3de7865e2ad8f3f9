/- Texts of one claim, merged: SnR5. -/
import Derived.Test.YtidakannaephoaaDoorS7

/- The reference's Take. -/
namespace Go.Proofs.YtidakannaephoaaDoor
set_option maxRecDepth 100000
open Go.RowKit

set_option maxHeartbeats 4000000 in
theorem rsn_take (w : World) (b l y n s r : Int) (v : Value) (ps : List ByteArray) (hz : ps.length ≤ 1000000) (hv : TsAt w v ps) :
    Calls Tryd.prog 10 #[.agg (gv b l y n s r), v] w (TakeS b l y n s r ps w) := by
  obtain ⟨w2, hw2⟩ : ∃ w2, (w.alloc (.cells (gv b l y n s r) 23)).alloc (.cells nil4 26) = w2 := ⟨_, rfl⟩
  have hsw : SnW w b l y n s r nil4 w2 := by rw [← hw2]; exact SnW.new _ _ _ _ _ _ _ _
  obtain ⟨a, cap, rfl, hs⟩ := hv
  have HS := Lib.hid hs
  have HSW := Lib.hid hsw
  have HW2 := Lib.hid hw2
  clear hs hsw hw2
  rcases chk_eq0 b l y n s r with ⟨hck, hok⟩ | ⟨hck, hok⟩
  · have HK := Lib.hid hck
    have HOK := Lib.hid hok
    clear hck hok
    obtain ⟨N, hN⟩ : ∃ N : Nat, n = N := ⟨n.toNat, by have h := HOK.out.1; unfold PreG at h; omega⟩
    obtain ⟨M, hM⟩ : ∃ M : Nat, b = M := ⟨b.toNat, by have h := HOK.out.1; unfold PreG at h; omega⟩
    obtain ⟨Y, hY⟩ : ∃ Y : Nat, y = Y := ⟨y.toNat, by have h := HOK.out.1; unfold PreG at h; omega⟩
    subst hN hM hY
    have hbd : N ≤ 4096 ∧ M ≤ 64 ∧ 16 ≤ Y ∧ Y ≤ 256 := by have h := HOK.out.1; unfold PreG at h; omega
    obtain ⟨K, hK⟩ : ∃ K, (6 * N + 10 * M + (Y - 1)) / Y = K := ⟨_, rfl⟩
    have hkm := snaps_mul (T := 6 * N + 10 * M) (Y := Y) (by omega)
    have hks := snaps_nat M N Y (by omega)
    rw [hK] at hkm hks
    have hk60 : K * Y ≤ 25472 := by omega
    have hkk : K ≤ 25472 := by have h6 : K * 1 ≤ K * Y := Nat.mul_le_mul_left K (by omega); omega
    have HBD := Lib.hid hbd
    have HKM := Lib.hid hkm
    have HKS := Lib.hid hks
    have HKB : Hid (K * Y ≤ 25472 ∧ K ≤ 25472) := ⟨hk60, hkk⟩
    clear hK hkm hks hbd hk60 hkk
    obtain ⟨L, hL⟩ : ∃ L, ps.length = L := ⟨_, rfl⟩
    have HL := Lib.hid hL
    have HNO : Hid (∀ hno : ¬ PagesOk ps M N K Y, ∀ w', Below w.heap.size w w' → TakeS M l Y N s r ps w (.returned (.tuple #[.agg nil4, .int .i64 130])) w') := fun hno w' hb => by
      refine ⟨fun h => absurd HOK.out h, fun _ _ => rfl, fun _ h => absurd ?_ hno, hb⟩
      rw [HKS.out] at h; exact h
    rw [hL] at hz ⊢
    clear hL
    go_enter Tryd.func10, Tryd.ntmps10
    go_wp2_with (first
      | (change wpList _ _ _ _ _ ((w.alloc (.cells (gv M l Y N s r) 23)).alloc (.cells nil4 26)); rw [HW2.out]; refine wpList_load_row rfl 23 (.tmp 2) rfl w.heap.size rfl 23 (gv M l Y N s r) (0, 0) _ HSW.out.1.2.1 Tryd.underlying23 rfl size_geo ?_))
    refine (rge_check M l Y N s r w2).mono ?_
    rintro e w3 ⟨rfl, hb3⟩
    rw [HK.out]
    have HS3 : Hid (SnW w M l Y N s r nil4 w3) := HSW.out.call hb3
    clear hb3
    go_wp2_with fail
    go_loopw [6, 7] (fun sv iv wr => ∃ i : Nat, i ≤ L ∧ iv = .int .i64 i ∧ sv = .string (catP (ps.take i)) ∧ Hid (i ≤ K ∧ (∀ j (h : j < ps.length), j < i → ps[j].size = Y) ∧ (catP (ps.take i)).size = i * Y) ∧ Hid (SnW w M l Y N s r nil4 wr)) (fun _ iv _ => L + 1 - (intOf iv).toNat)
    case atStart => exact ⟨0, Nat.zero_le _, rfl, rfl, ⟨Nat.zero_le _, fun _ _ h => absurd h (Nat.not_lt_zero _), by rw [Nat.zero_mul]; rfl⟩, HS3.out⟩
    case round =>
      obtain ⟨i, hi, rfl, rfl, HI, HSR⟩ := hrel
      by_cases hlt : i < L
      · have hltz : (i : Int) < (L : Int) := by omega
        have i0 : (0 : Int) ≤ (i : Int) := by omega
        have hil : i < ps.length := by have := HL.out; omega
        obtain ⟨g, o, rfl, r1⟩ := HS.out i hil
        have c1 := (HSR.out.2.cell (p := ⟨g, o + i, none⟩) (cell_lt r1)).trans r1
        have hst := catP_step ps i hil
        obtain ⟨pg, hpg⟩ : ∃ pg, ps[i] = pg := ⟨_, rfl⟩
        rw [hpg] at c1 hst
        have HPG : Hid (∃ h : i < ps.length, ps[i] = pg) := ⟨hil, hpg⟩
        have HST := Lib.hid hst
        clear r1 hst hpg hil
        obtain ⟨c0, c2, c3, c4, c5, c6⟩ := HSR.out.six
        by_cases hsz : pg.size = Y
        · have hszb : ((pg.size : Int) != (Y : Int)) = false := by rw [hsz]; simp
          by_cases hik : i < K
          · have hikz : ¬ (K : Int) ≤ (i : Int) := by omega
            go_upto_region 7 with fail
            go_region_held3 (fun w' => w'.cell? ⟨w.heap.size, 0, none⟩ = some (.int .i64 M) ∧ w'.cell? ⟨w.heap.size, 1, none⟩ = some (.int .i64 l) ∧ w'.cell? ⟨w.heap.size, 2, none⟩ = some (.int .i64 Y) ∧ w'.cell? ⟨w.heap.size, 3, none⟩ = some (.int .i64 N) ∧ w'.cell? ⟨w.heap.size, 4, none⟩ = some (.int .i64 s) ∧ w'.cell? ⟨w.heap.size, 5, none⟩ = some (.int .i64 r) ∧ w'.cell? ⟨g, o + i, none⟩ = some (.string pg))
              (first | (go_keep; done))
              (first
                | (go_at_call 25; refine (snaps_stay ((snw_stay w M l Y N s r nil4).and (Stay.cell ⟨g, o + i, none⟩ (.string pg))) M l Y N s r K _ ⟨HSR.out.call (Below.refl _ _).drew, ?_⟩ HOK.out.1 HKS.out).mono ?_; simp [*]; rintro e w' ⟨rfl, hsr, c1'⟩; obtain ⟨c0', c2', c3', c4', c5', c6'⟩ := hsr.six))
            have HS9 : Hid (SnW w M l Y N s r nil4 w') := by assumption
            have HI2 : Hid (i + 1 ≤ K ∧ (∀ j (h : j < ps.length), j < i + 1 → ps[j].size = Y) ∧ (catP (ps.take (i + 1))).size = (i + 1) * Y) := by
              refine ⟨hik, fun j h hj => ?_, ?_⟩
              · rcases Nat.lt_or_ge j i with h5 | h5
                · exact HI.out.2.1 j h h5
                · obtain rfl : j = i := by omega
                  obtain ⟨_, h7⟩ := HPG.out
                  rw [h7]; exact hsz
              · rw [HST.out, ByteArray.size_append, HI.out.2.2, hsz, Nat.add_mul, Nat.one_mul]
            have hno : ¬ 9223372036854775807 < (catP (ps.take i)).size + pg.size := by
              have h1 := HI2.out.2.2
              rw [HST.out, ByteArray.size_append] at h1
              have h2 : (i + 1) * Y ≤ K * Y := Nat.mul_le_mul_right Y hik
              have := HKB.out; omega
            have r19 : w.cell? ⟨g, o + i, none⟩ = some (.string pg) := by
              obtain ⟨h8, h9⟩ := HPG.out
              obtain ⟨g', o', h10, h11⟩ := HS.out i h8
              cases h10; rw [h9] at h11; exact h11
            have c19 := (HS9.out.2.cell (p := ⟨g, o + i, none⟩) (cell_lt r19)).trans r19
            clear r19
            clear hsz c0 c1 c2 c3 c4 c5 c6
            go_wp2_with fail
            refine ⟨⟨i + 1, by omega, by go_num, congrArg Value.string HST.out.symm, HI2, HS9⟩, ?_⟩
            simp [intOf]; omega
          · have hikz : (K : Int) ≤ (i : Int) := by omega
            have HNP : Hid (¬ PagesOk ps M N K Y) := fun h => by have h1 := h.1; have := HL.out; omega
            go_upto_region 7 with fail
            go_region_held3 (fun w' => w'.cell? ⟨w.heap.size, 0, none⟩ = some (.int .i64 M) ∧ w'.cell? ⟨w.heap.size, 1, none⟩ = some (.int .i64 l) ∧ w'.cell? ⟨w.heap.size, 2, none⟩ = some (.int .i64 Y) ∧ w'.cell? ⟨w.heap.size, 3, none⟩ = some (.int .i64 N) ∧ w'.cell? ⟨w.heap.size, 4, none⟩ = some (.int .i64 s) ∧ w'.cell? ⟨w.heap.size, 5, none⟩ = some (.int .i64 r) ∧ w'.cell? ⟨g, o + i, none⟩ = some (.string pg))
              (first | (go_keep; done))
              (first
                | (go_at_call 25; refine (snaps_stay ((snw_stay w M l Y N s r nil4).and (Stay.cell ⟨g, o + i, none⟩ (.string pg))) M l Y N s r K _ ⟨HSR.out.call (Below.refl _ _).drew, ?_⟩ HOK.out.1 HKS.out).mono ?_; simp [*]; rintro e w' ⟨rfl, hsr, c1'⟩; obtain ⟨c0', c2', c3', c4', c5', c6'⟩ := hsr.six))
            have HS9 : Hid (SnW w M l Y N s r nil4 w') := by assumption
            clear hsz c0 c1 c2 c3 c4 c5 c6
            go_wp2_with (first
              | (refine wpList_store_row rfl 26 (.tmp 4) (.tmp 37) rfl (w.heap.size + 1) nil4 rfl rfl 26 nil4 HS9.out.1.2.2 size_state rfl nil4_one ?_))
            refine bodyPost_ret (results_cell_tmp rfl _ _ (w.heap.size + 1) 26 nil4 _ rfl (HS9.out.1.2.2.put _) Tryd.underlying26 rfl size_state) rfl ?_
            exact HNO.out HNP.out _ (below_row HS9.out _)
        · have hszb : ((pg.size : Int) != (Y : Int)) = true := by rw [bne_iff_ne]; omega
          have HNP : Hid (¬ PagesOk ps M N K Y) := fun h => by
            obtain ⟨h8, h9⟩ := HPG.out
            exact hsz (by rw [← h9]; exact h.2.1 _ (List.getElem_mem h8))
          go_upto_region 7 with fail
          go_quiet (fail)
          have HS9 : Hid (SnW w M l Y N s r nil4 (wr.drewN nq)) := HSR.out.call (below_drewX (Below.refl _ _) _)
          go_wp2_with (first
              | (refine wpList_store_row rfl 26 (.tmp 4) (.tmp 37) rfl (w.heap.size + 1) nil4 rfl rfl 26 nil4 HS9.out.1.2.2 size_state rfl nil4_one ?_))
          refine bodyPost_ret (results_cell_tmp rfl _ _ (w.heap.size + 1) 26 nil4 _ rfl (HS9.out.1.2.2.put _) Tryd.underlying26 rfl size_state) rfl ?_
          exact HNO.out HNP.out _ (below_row HS9.out _)
      · obtain rfl : i = L := by omega
        have hltz : ¬ (i : Int) < (i : Int) := by omega
        have htk : ps.take i = ps := List.take_of_length_le (by rw [HL.out]; exact Nat.le_refl _)
        rw [htk] at HI ⊢
        obtain ⟨c0, c2, c3, c4, c5, c6⟩ := HSR.out.six
        by_cases hlk : i = K
        · subst hlk
          have hb0 : ((i : Int) != (i : Int)) = false := by simp
          obtain ⟨text, htx⟩ : ∃ text, catP ps = text := ⟨_, rfl⟩
          rw [htx] at HI ⊢
          have HTX := Lib.hid htx
          clear htx htk hlt
          go_wp2_with (first
            | (refine wpList_load_row rfl 23 (.tmp 2) rfl w.heap.size rfl 23 (gv M l Y N s r) (0, 0) _ HSR.out.1.2.1 Tryd.underlying23 rfl size_geo ?_))
          refine (snaps_stay (snw_stay w M l Y N s r nil4) M l Y N s r i wr HSR.out HOK.out.1 HKS.out).mono ?_
          rintro e w10 ⟨rfl, hs10⟩
          have HS10 := Lib.hid hs10
          clear hs10 c0 c2 c3 c4 c5 c6
          obtain ⟨wb, hwb⟩ : ∃ wb, w10.alloc (.cells #[.slice none 0 0, .slice none 0 0, .slice none 0 0, .slice none 0 0] 26) = wb := ⟨_, rfl⟩
          have hkb : Blk wb w10.heap.size nil4 26 := by rw [← hwb]; exact Blk.new _ _ _
          have hbb : Below w10.heap.size w10 wb := by rw [← hwb]; exact (Below.refl _ _).alloc (Nat.le_refl _) _
          go_wp2_with fail
          obtain ⟨Bs, hBs⟩ : ∃ Bs, w10.heap.size = Bs := ⟨_, rfl⟩
          rw [hBs] at hkb hbb ⊢
          have HKB2 := Lib.hid hkb
          have HBB := Lib.hid hbb
          have HWB := Lib.hid hwb
          have HBS := Lib.hid hBs
          have hbs2 : w.heap.size + 2 ≤ Bs := by rw [← hBs]; exact HS10.out.1.1
          have HBS2 := Lib.hid hbs2
          have HT : Hid (text.size = i * Y) := HI.out.2.2
          have HTB : Hid (6 * N + 10 * M ≤ text.size ∧ text.size ≤ 25472) := by have h1 := HT.out; have h2 := HKM.out; have h3 := HKB.out; exact ⟨by omega, by omega⟩
          have HBLK0 : Hid (w10.heap.size = Bs) := hBs
          clear hkb hbb hwb hbs2 hBs
          obtain ⟨i0, hi0, hz0, hz1, hz2⟩ := info_partsX infoInt
          go_loopw [9, 10] (fun av jv wr => ∃ (j q : Nat) (vF : Value), j ≤ N ∧ jv = .int .i64 j ∧ av = .int .i64 q ∧ q = 6 * j ∧ Hid (Blk wr Bs #[vF, .slice none 0 0, .slice none 0 0, .slice none 0 0] 26) ∧ Hid (wr.ownsRow (Bs + 1) 3 1 vF j (intV ((List.range j).map fun k => numAt text (6 * k) 6))) ∧ Hid (Below Bs w10 wr)) (fun _ jv _ => N + 1 - (intOf jv).toNat)
          case atStart => exact ⟨0, 0, _, Nat.zero_le _, rfl, rfl, rfl, HKB2.out, ⟨rfl, Or.inl ⟨rfl, rfl⟩⟩, HBB.out⟩
          case round =>
            obtain ⟨j, q, vF, hj, rfl, rfl, hq, HBK, HOW, HBL⟩ := hrel
            have hs9 := HS10.out.call (by rw [HBLK0.out]; exact HBL.out)
            obtain ⟨g0, g2, g3⟩ := hs9.geo
            have HQ := Lib.hid hq
            clear hs9 hq
            by_cases hlt : j < N
            · have hltz : (j : Int) < (N : Int) := by omega
              have hqz : q + 6 ≤ text.size := by have := HQ.out; have := HTB.out; omega
              have hqb := HTB.out.2
              have hqi : (q : Int) + 6 ≤ (text.size : Int) := by omega
              have hto : ((q : Int) + 6).toNat = q + 6 := by omega
              have hwr : IntKind.i64.wrap ((q : Int) + 6) = (q : Int) + 6 := by rw [IntKind.wrap_i64]; omega
              have hq6 : (0 : Int) ≤ (q : Int) + 6 := by omega
              have hqq : (q : Int) ≤ (q : Int) + 6 := by omega
              have hpc : (text.extract q (q + 6)).size = 6 := by rw [ByteArray.size_extract]; omega
              obtain ⟨pc, hpc0⟩ : ∃ pc, text.extract q (q + 6) = pc := ⟨_, rfl⟩
              have HNU : Hid (numS pc = numAt text (6 * j) 6) := by show _ = numS (text.extract (6 * j) (6 * j + 6)); rw [← hpc0, HQ.out]
              rw [hpc0] at hpc
              have HPC := Lib.hid hpc
              have hj4 : j ≤ 4096 := by have := HBD.out.1; omega
              have hbs : Bs + 1 ≤ wr.heap.size := HBK.out.lt
              have d0 : wr.cell? ⟨Bs, 0, none⟩ = some vF := HBK.out.cell 0
              have d0a : (wr.alloc (.cells #[.int .i64 (numS pc)] 3)).cell? ⟨Bs, 0, none⟩ = some vF := (HBK.out.alloc _).cell 0
              have d0b : (wr.alloc (.cells #[.int .i64 (numS pc)] 3)).drew.cell? ⟨Bs, 0, none⟩ = some vF := (HBK.out.alloc _).cell 0
              clear hpc
              go_upto_region 17 with fail
              go_region_law (first
                | (go_simp; go_at_call 26; refine (rtag_of pc _ (by rw [HPC.out]; decide) (by rw [HPC.out]; decide)).mono ?_; rintro e w' ⟨rfl, rfl⟩)
                | (refine step_append_lies _ rfl (.tmp 57) (.tmp 64) 24 rfl (Bs + 1) 3 i0 (.int .i64 0) 1 8 Tryd.underlying24 hi0 hz0 hz1 hz2 rfl (by decide) vF j _ (by simp [Act.eval]) (by first | exact HOW.out.drew.alloc _ | exact HOW.out.alloc _ | exact (HOW.out.alloc _).drew) ⟨wr.heap.size, 0, none⟩ 1 1 [.int .i64 (numS pc)] (by simp [Act.eval]) rfl (fun k u hk => cells_newX wr #[.int .i64 (numS pc)] 3 k u hk) (by intro u hu; simp at hu; subst hu; rfl) (by decide) (by unfold maxLen; omega) (by omega) (by simp; omega) _ rfl ?_; intro g cap w5 hown5 hg5 hat5 _; have hk5 := blk_grownS ((HBK.out.alloc (.cells #[.int .i64 (numS pc)] 3)).after (Below.refl _ _).drew) hg5 (own_ne HOW.out (Nat.lt_succ_self _)); have d5 := hk5.cell 0; have f5 := hk5.free 0))
              all_goals
                have HN5 : Hid (Blk (w5.setCell ⟨Bs, 0, none⟩ (.slice (some ⟨g, 0, none⟩) (j + 1) cap)) Bs #[.slice (some ⟨g, 0, none⟩) (j + 1) cap, .slice none 0 0, .slice none 0 0, .slice none 0 0] 26) := hk5.set 0 _ rfl
                have HO5 : Hid ((w5.setCell ⟨Bs, 0, none⟩ (.slice (some ⟨g, 0, none⟩) (j + 1) cap)).ownsRow (Bs + 1) 3 1 (.slice (some ⟨g, 0, none⟩) (j + 1) cap) (j + 1) (intV ((List.range (j + 1)).map fun k => numAt text (6 * k) 6))) := by
                  refine ownsRow_setCell_below ?_ (Nat.lt_succ_self _) _
                  rw [intV_snoc, ← HNU.out]; exact hown5
                have HB5 : Hid (Below Bs w10 (w5.setCell ⟨Bs, 0, none⟩ (.slice (some ⟨g, 0, none⟩) (j + 1) cap))) :=
                  (HBL.out.trans (own_belowX HOW.out hbs (show (wr.alloc (.cells #[.int .i64 (numS pc)] 3)).grownBy w5 vF.ownBlock from ⟨hg5.os, hg5.tape, hg5.output, hg5.size, hg5.block⟩) |>.mono (Nat.le_succ _))).setCell (Nat.le_refl _) _
                generalize w5.setCell ⟨Bs, 0, none⟩ (.slice (some ⟨g, 0, none⟩) (j + 1) cap) = w6 at HN5 HO5 HB5 ⊢
                clear hown5 hg5 hat5 hk5 d5 f5 d0 d0a d0b g0 g2 g3 hto hqi
                go_wp2_with fail
                refine ⟨⟨j + 1, q + 6, _, hlt, by go_num, by go_num, by have := HQ.out; omega, HN5, HO5, HB5⟩, ?_⟩
                simp [intOf]; omega
            · obtain rfl : j = N := by omega
              have hltz : ¬ (j : Int) < (j : Int) := by omega
              clear hlt
              obtain ⟨lf, hlf⟩ : ∃ lf, (List.range j).map (fun k => numAt text (6 * k) 6) = lf := ⟨_, rfl⟩
              have hll : lf.length = j := by rw [← hlf]; simp
              have hown := HOW.out
              rw [hlf] at hown
              have HLF := Lib.hid hlf
              have HLL := Lib.hid hll
              have H4 : Hid (FourR wr (Bs + 1) [vF, .slice none 0 0, .slice none 0 0, .slice none 0 0] [lf, [], [], []]) := by
                refine ⟨fun k hk => ?_, fun k k' hk hk' hne => ?_⟩
                · obtain rfl | rfl | rfl | rfl : k = 0 ∨ k = 1 ∨ k = 2 ∨ k = 3 := by omega
                  · show wr.ownsRow (Bs + 1) 3 1 vF lf.length (intV lf); rw [hll]; exact hown
                  all_goals exact ⟨rfl, Or.inl ⟨rfl, rfl⟩⟩
                · obtain rfl | rfl | rfl | rfl : k = 0 ∨ k = 1 ∨ k = 2 ∨ k = 3 := by omega
                  · obtain rfl | rfl | rfl : k' = 1 ∨ k' = 2 ∨ k' = 3 := by omega
                    all_goals exact fun g hg h => nomatch h
                  all_goals exact fun g hg => nomatch hg
              clear hown hlf hll
              go_wp2_with fail
              clear g0 g2 g3 hltz hj
              obtain ⟨wd, hwd⟩ : ∃ wd, wr = wd := ⟨_, rfl⟩
              have HBK0 := HBK
              have HBL0 := HBL
              go_loopw [9, 11] (fun av jv wr => ∃ (t p : Nat) (vC vS vT : Value), t ≤ M ∧ jv = .int .i64 t ∧ av = .int .i64 p ∧ p = 6 * j + 10 * t ∧ Hid (Blk wr Bs #[vF, vC, vS, vT] 26) ∧ Hid (FourR wr (Bs + 1) [vF, vC, vS, vT] [lf, (List.range t).map (fun k => numAt text (6 * j + 10 * k) 4), (List.range t).map (fun k => numAt text (6 * j + 10 * k + 4) 3), (List.range t).map (fun k => numAt text (6 * j + 10 * k + 7) 3)]) ∧ Hid (Below Bs w10 wr)) (fun _ jv _ => M + 1 - (intOf jv).toNat)
              case atStart => exact ⟨0, q, _, _, _, Nat.zero_le _, rfl, rfl, HQ.out, HBK0.out, H4.out, HBL0.out⟩
              case round =>
                obtain ⟨t, p, vC, vS, vT, ht, rfl, rfl, hp, HBK3, HR3, HBL3⟩ := hrel
                have hs9 := HS10.out.call (by rw [HBLK0.out]; exact HBL3.out)
                obtain ⟨g0, g2, g3⟩ := hs9.geo
                have HP := Lib.hid hp
                clear hs9 hp
                by_cases hlt : t < M
                · have hltz : (t : Int) < (M : Int) := by omega
                  have ht64 : t ≤ 64 := by have := HBD.out.2.1; omega
                  have hqz : p + 10 ≤ text.size := by have := HP.out; have := HTB.out; omega
                  have hqb := HTB.out.2
                  have hqi : (p : Int) + 10 ≤ (text.size : Int) := by omega
                  have hqi7 : (p : Int) + 7 ≤ (text.size : Int) := by omega
                  have hqi4 : (p : Int) + 4 ≤ (text.size : Int) := by omega
                  have hto4 : ((p : Int) + 4).toNat = p + 4 := by omega
                  have hwr4 : IntKind.i64.wrap ((p : Int) + 4) = (p : Int) + 4 := by rw [IntKind.wrap_i64]; omega
                  have hnn4 : (0 : Int) ≤ (p : Int) + 4 := by omega
                  have hto7 : ((p : Int) + 7).toNat = p + 7 := by omega
                  have hwr7 : IntKind.i64.wrap ((p : Int) + 7) = (p : Int) + 7 := by rw [IntKind.wrap_i64]; omega
                  have hnn7 : (0 : Int) ≤ (p : Int) + 7 := by omega
                  have hto10 : ((p : Int) + 10).toNat = p + 10 := by omega
                  have hwr10 : IntKind.i64.wrap ((p : Int) + 10) = (p : Int) + 10 := by rw [IntKind.wrap_i64]; omega
                  have hnn10 : (0 : Int) ≤ (p : Int) + 10 := by omega
                  have hle4 : (p : Int) ≤ (p : Int) + 4 := by omega
                  have hle7 : (p : Int) + 4 ≤ (p : Int) + 7 := by omega
                  have hle10 : (p : Int) + 7 ≤ (p : Int) + 10 := by omega
                  have hs1 : (text.extract p (p + 4)).size = 4 := by rw [ByteArray.size_extract]; omega
                  obtain ⟨pc1, hpc1⟩ : ∃ pc, text.extract p (p + 4) = pc := ⟨_, rfl⟩
                  have HN1 : Hid (numS pc1 = numAt text (6 * j + 10 * t) 4) := by show _ = numS (text.extract (6 * j + 10 * t) (6 * j + 10 * t + 4)); rw [← hpc1, HP.out]
                  rw [hpc1] at hs1
                  have HP1 := Lib.hid hs1
                  have hs2 : (text.extract (p + 4) (p + 7)).size = 3 := by rw [ByteArray.size_extract]; omega
                  obtain ⟨pc2, hpc2⟩ : ∃ pc, text.extract (p + 4) (p + 7) = pc := ⟨_, rfl⟩
                  have HN2 : Hid (numS pc2 = numAt text (6 * j + 10 * t + 4) 3) := by show _ = numS (text.extract (6 * j + 10 * t + 4) (6 * j + 10 * t + 4 + 3)); rw [← hpc2, HP.out]
                  rw [hpc2] at hs2
                  have HP2 := Lib.hid hs2
                  have hs3 : (text.extract (p + 7) (p + 10)).size = 3 := by rw [ByteArray.size_extract]; omega
                  obtain ⟨pc3, hpc3⟩ : ∃ pc, text.extract (p + 7) (p + 10) = pc := ⟨_, rfl⟩
                  have HN3 : Hid (numS pc3 = numAt text (6 * j + 10 * t + 7) 3) := by show _ = numS (text.extract (6 * j + 10 * t + 7) (6 * j + 10 * t + 7 + 3)); rw [← hpc3, HP.out]
                  rw [hpc3] at hs3
                  have HP3 := Lib.hid hs3
                  obtain ⟨lc, hlc⟩ : ∃ lc, (List.range t).map (fun k => numAt text (6 * j + 10 * k) 4) = lc := ⟨_, rfl⟩
                  obtain ⟨ls, hls⟩ : ∃ ls, (List.range t).map (fun k => numAt text (6 * j + 10 * k + 4) 3) = ls := ⟨_, rfl⟩
                  obtain ⟨lt, hlt'⟩ : ∃ lt, (List.range t).map (fun k => numAt text (6 * j + 10 * k + 7) 3) = lt := ⟨_, rfl⟩
                  rw [hlc, hls, hlt'] at HR3
                  have HLC : Hid (lc.length = t ∧ ls.length = t ∧ lt.length = t) := ⟨by rw [← hlc]; simp, by rw [← hls]; simp, by rw [← hlt']; simp⟩
                  have HEC : Hid ((List.range t).map (fun k => numAt text (6 * j + 10 * k) 4) = lc ∧ (List.range t).map (fun k => numAt text (6 * j + 10 * k + 4) 3) = ls ∧ (List.range t).map (fun k => numAt text (6 * j + 10 * k + 7) 3) = lt) := ⟨hlc, hls, hlt'⟩
                  clear hs1 hs2 hs3 hlc hls hlt'
                  have hbs1 : Bs + 1 ≤ wr.heap.size := HBK3.out.lt
                  have HOW1 : Hid (wr.ownsRow (Bs + 1) 3 1 vC t (intV lc)) := by have h : wr.ownsRow (Bs + 1) 3 1 vC (lc).length (intV lc) := HR3.out.1 1 (by decide); rw [HLC.out.1] at h; exact h
                  have d0 : wr.cell? ⟨Bs, 1, none⟩ = some vC := HBK3.out.cell 1
                  have d0a : (wr.alloc (.cells #[.int .i64 (numS pc1)] 3)).cell? ⟨Bs, 1, none⟩ = some vC := (HBK3.out.alloc _).cell 1
                  have d0b : (wr.alloc (.cells #[.int .i64 (numS pc1)] 3)).drew.cell? ⟨Bs, 1, none⟩ = some vC := (HBK3.out.alloc _).cell 1
                  go_upto_region 22 with fail
                  go_cut [9] (fun s9 wx => s9 = .int .i64 (p : Int) ∧ ∃ v1, Hid (Blk wx Bs #[vF, v1, vS, vT] 26) ∧ Hid (FourR wx (Bs + 1) [vF, v1, vS, vT] [lf, (lc ++ [numS pc1]), ls, lt]) ∧ Hid (Below Bs w10 wx))
                  case first =>
                    go_region_law (first
                      | (go_simp; go_at_call 26; refine (rtag_of pc1 _ (by rw [HP1.out]; decide) (by rw [HP1.out]; decide)).mono ?_; rintro e w' ⟨rfl, rfl⟩)
                      | (refine step_append_lies _ rfl (.tmp 76) (.tmp 83) 24 rfl (Bs + 1) 3 i0 (.int .i64 0) 1 8 Tryd.underlying24 hi0 hz0 hz1 hz2 rfl (by decide) vC t _ (by simp [Act.eval]) (by first | exact HOW1.out.drew.alloc _ | exact HOW1.out.alloc _ | exact (HOW1.out.alloc _).drew) ⟨wr.heap.size, 0, none⟩ 1 1 [.int .i64 (numS pc1)] (by simp [Act.eval]) rfl (fun k u hk => cells_newX wr #[.int .i64 (numS pc1)] 3 k u hk) (by intro u hu; simp at hu; subst hu; rfl) (by decide) (by unfold maxLen; omega) (by omega) (by simp; omega) _ rfl ?_; intro g cap w5 hown5 hg5 hat5 _; have hk5 := blk_grownS ((HBK3.out.alloc (.cells #[.int .i64 (numS pc1)] 3)).after (Below.refl _ _).drew) hg5 (own_ne HOW1.out (Nat.lt_succ_self _)); have d5 := hk5.cell 1; have f5 := hk5.free 1))
                    all_goals
                      have hga : (wr.alloc (.cells #[.int .i64 (numS pc1)] 3)).grownBy w5 (vC).ownBlock := ⟨hg5.os, hg5.tape, hg5.output, hg5.size, hg5.block⟩
                      have HN5 : Hid (Blk (w5.setCell ⟨Bs, 1, none⟩ (.slice (some ⟨g, 0, none⟩) (t + 1) cap)) Bs #[vF, (.slice (some ⟨g, 0, none⟩) (t + 1) cap), vS, vT] 26) := hk5.set 1 _ rfl
                      have HR5 : Hid (FourR (w5.setCell ⟨Bs, 1, none⟩ (.slice (some ⟨g, 0, none⟩) (t + 1) cap)) (Bs + 1) [vF, (.slice (some ⟨g, 0, none⟩) (t + 1) cap), vS, vT] [lf, (lc ++ [numS pc1]), ls, lt]) := by
                        refine FourR.setCell ?_ _ (Nat.lt_succ_self _) _
                        exact HR3.out.grow (k := 1) (x := numS pc1) rfl rfl (by decide) (HLC.out.1) hown5 hga (by rcases hat5 with h | h; exact Or.inl h; exact Or.inr (by simpa using h))
                      have HB5 : Hid (Below Bs w10 (w5.setCell ⟨Bs, 1, none⟩ (.slice (some ⟨g, 0, none⟩) (t + 1) cap))) := (HBL3.out.trans (own_belowX HOW1.out hbs1 hga |>.mono (Nat.le_succ _))).setCell (Nat.le_refl _) _
                      generalize w5.setCell ⟨Bs, 1, none⟩ (.slice (some ⟨g, 0, none⟩) (t + 1) cap) = w6 at HN5 HR5 HB5 ⊢
                      clear hown5 hg5 hga hat5 hk5 d5 f5 d0 d0a d0b
                      go_wp2_with fail
                      go_meet
                      case rel => exact ⟨rfl, _, HN5, HR5, HB5⟩
                  case rest =>
                    rename World => wx1
                    obtain ⟨rfl, vC1, HBX1, HRX1, HLX1⟩ := hcut
                    clear d0 d0a d0b g0 g2 g3
                    have hbs2 : Bs + 1 ≤ wx1.heap.size := HBX1.out.lt
                    have HOW2 : Hid (wx1.ownsRow (Bs + 1) 3 1 vS t (intV ls)) := by have h : wx1.ownsRow (Bs + 1) 3 1 vS (ls).length (intV ls) := HRX1.out.1 2 (by decide); rw [HLC.out.2.1] at h; exact h
                    have d0 : wx1.cell? ⟨Bs, 2, none⟩ = some vS := HBX1.out.cell 2
                    have d0a : (wx1.alloc (.cells #[.int .i64 (numS pc2)] 3)).cell? ⟨Bs, 2, none⟩ = some vS := (HBX1.out.alloc _).cell 2
                    have d0b : (wx1.alloc (.cells #[.int .i64 (numS pc2)] 3)).drew.cell? ⟨Bs, 2, none⟩ = some vS := (HBX1.out.alloc _).cell 2
                    go_upto_region 23 with fail
                    go_cut [9] (fun s9 wx => s9 = .int .i64 (p : Int) ∧ ∃ v1, Hid (Blk wx Bs #[vF, vC1, v1, vT] 26) ∧ Hid (FourR wx (Bs + 1) [vF, vC1, v1, vT] [lf, (lc ++ [numS pc1]), (ls ++ [numS pc2]), lt]) ∧ Hid (Below Bs w10 wx))
                    case first =>
                      go_region_law (first
                        | (go_simp; go_at_call 26; refine (rtag_of pc2 _ (by rw [HP2.out]; decide) (by rw [HP2.out]; decide)).mono ?_; rintro e w' ⟨rfl, rfl⟩)
                        | (refine step_append_lies _ rfl (.tmp 87) (.tmp 95) 24 rfl (Bs + 1) 3 i0 (.int .i64 0) 1 8 Tryd.underlying24 hi0 hz0 hz1 hz2 rfl (by decide) vS t _ (by simp [Act.eval]) (by first | exact HOW2.out.drew.alloc _ | exact HOW2.out.alloc _ | exact (HOW2.out.alloc _).drew) ⟨wx1.heap.size, 0, none⟩ 1 1 [.int .i64 (numS pc2)] (by simp [Act.eval]) rfl (fun k u hk => cells_newX wx1 #[.int .i64 (numS pc2)] 3 k u hk) (by intro u hu; simp at hu; subst hu; rfl) (by decide) (by unfold maxLen; omega) (by omega) (by simp; omega) _ rfl ?_; intro g cap w5 hown5 hg5 hat5 _; have hk5 := blk_grownS ((HBX1.out.alloc (.cells #[.int .i64 (numS pc2)] 3)).after (Below.refl _ _).drew) hg5 (own_ne HOW2.out (Nat.lt_succ_self _)); have d5 := hk5.cell 2; have f5 := hk5.free 2))
                      all_goals
                        have hga : (wx1.alloc (.cells #[.int .i64 (numS pc2)] 3)).grownBy w5 (vS).ownBlock := ⟨hg5.os, hg5.tape, hg5.output, hg5.size, hg5.block⟩
                        have HN5 : Hid (Blk (w5.setCell ⟨Bs, 2, none⟩ (.slice (some ⟨g, 0, none⟩) (t + 1) cap)) Bs #[vF, vC1, (.slice (some ⟨g, 0, none⟩) (t + 1) cap), vT] 26) := hk5.set 2 _ rfl
                        have HR5 : Hid (FourR (w5.setCell ⟨Bs, 2, none⟩ (.slice (some ⟨g, 0, none⟩) (t + 1) cap)) (Bs + 1) [vF, vC1, (.slice (some ⟨g, 0, none⟩) (t + 1) cap), vT] [lf, (lc ++ [numS pc1]), (ls ++ [numS pc2]), lt]) := by
                          refine FourR.setCell ?_ _ (Nat.lt_succ_self _) _
                          exact HRX1.out.grow (k := 2) (x := numS pc2) rfl rfl (by decide) (HLC.out.2.1) hown5 hga (by rcases hat5 with h | h; exact Or.inl h; exact Or.inr (by simpa using h))
                        have HB5 : Hid (Below Bs w10 (w5.setCell ⟨Bs, 2, none⟩ (.slice (some ⟨g, 0, none⟩) (t + 1) cap))) := (HLX1.out.trans (own_belowX HOW2.out hbs2 hga |>.mono (Nat.le_succ _))).setCell (Nat.le_refl _) _
                        generalize w5.setCell ⟨Bs, 2, none⟩ (.slice (some ⟨g, 0, none⟩) (t + 1) cap) = w6 at HN5 HR5 HB5 ⊢
                        clear hown5 hg5 hga hat5 hk5 d5 f5 d0 d0a d0b
                        go_wp2_with fail
                        go_meet
                        case rel => exact ⟨rfl, _, HN5, HR5, HB5⟩
                    case rest =>
                      rename World => wx2
                      obtain ⟨rfl, vS1, HBX2, HRX2, HLX2⟩ := hcut
                      clear d0 d0a d0b
                      have hbs3 : Bs + 1 ≤ wx2.heap.size := HBX2.out.lt
                      have HOW3 : Hid (wx2.ownsRow (Bs + 1) 3 1 vT t (intV lt)) := by have h : wx2.ownsRow (Bs + 1) 3 1 vT (lt).length (intV lt) := HRX2.out.1 3 (by decide); rw [HLC.out.2.2] at h; exact h
                      have d0 : wx2.cell? ⟨Bs, 3, none⟩ = some vT := HBX2.out.cell 3
                      have d0a : (wx2.alloc (.cells #[.int .i64 (numS pc3)] 3)).cell? ⟨Bs, 3, none⟩ = some vT := (HBX2.out.alloc _).cell 3
                      have d0b : (wx2.alloc (.cells #[.int .i64 (numS pc3)] 3)).drew.cell? ⟨Bs, 3, none⟩ = some vT := (HBX2.out.alloc _).cell 3
                      go_upto_region 24 with fail
                      go_cut [9] (fun s9 wx => s9 = .int .i64 (p : Int) ∧ ∃ v1, Hid (Blk wx Bs #[vF, vC1, vS1, v1] 26) ∧ Hid (FourR wx (Bs + 1) [vF, vC1, vS1, v1] [lf, (lc ++ [numS pc1]), (ls ++ [numS pc2]), (lt ++ [numS pc3])]) ∧ Hid (Below Bs w10 wx))
                      case first =>
                        go_region_law (first
                          | (go_simp; go_at_call 26; refine (rtag_of pc3 _ (by rw [HP3.out]; decide) (by rw [HP3.out]; decide)).mono ?_; rintro e w' ⟨rfl, rfl⟩)
                          | (refine step_append_lies _ rfl (.tmp 99) (.tmp 107) 24 rfl (Bs + 1) 3 i0 (.int .i64 0) 1 8 Tryd.underlying24 hi0 hz0 hz1 hz2 rfl (by decide) vT t _ (by simp [Act.eval]) (by first | exact HOW3.out.drew.alloc _ | exact HOW3.out.alloc _ | exact (HOW3.out.alloc _).drew) ⟨wx2.heap.size, 0, none⟩ 1 1 [.int .i64 (numS pc3)] (by simp [Act.eval]) rfl (fun k u hk => cells_newX wx2 #[.int .i64 (numS pc3)] 3 k u hk) (by intro u hu; simp at hu; subst hu; rfl) (by decide) (by unfold maxLen; omega) (by omega) (by simp; omega) _ rfl ?_; intro g cap w5 hown5 hg5 hat5 _; have hk5 := blk_grownS ((HBX2.out.alloc (.cells #[.int .i64 (numS pc3)] 3)).after (Below.refl _ _).drew) hg5 (own_ne HOW3.out (Nat.lt_succ_self _)); have d5 := hk5.cell 3; have f5 := hk5.free 3))
                        all_goals
                          have hga : (wx2.alloc (.cells #[.int .i64 (numS pc3)] 3)).grownBy w5 (vT).ownBlock := ⟨hg5.os, hg5.tape, hg5.output, hg5.size, hg5.block⟩
                          have HN5 : Hid (Blk (w5.setCell ⟨Bs, 3, none⟩ (.slice (some ⟨g, 0, none⟩) (t + 1) cap)) Bs #[vF, vC1, vS1, (.slice (some ⟨g, 0, none⟩) (t + 1) cap)] 26) := hk5.set 3 _ rfl
                          have HR5 : Hid (FourR (w5.setCell ⟨Bs, 3, none⟩ (.slice (some ⟨g, 0, none⟩) (t + 1) cap)) (Bs + 1) [vF, vC1, vS1, (.slice (some ⟨g, 0, none⟩) (t + 1) cap)] [lf, (lc ++ [numS pc1]), (ls ++ [numS pc2]), (lt ++ [numS pc3])]) := by
                            refine FourR.setCell ?_ _ (Nat.lt_succ_self _) _
                            exact HRX2.out.grow (k := 3) (x := numS pc3) rfl rfl (by decide) (HLC.out.2.2) hown5 hga (by rcases hat5 with h | h; exact Or.inl h; exact Or.inr (by simpa using h))
                          have HB5 : Hid (Below Bs w10 (w5.setCell ⟨Bs, 3, none⟩ (.slice (some ⟨g, 0, none⟩) (t + 1) cap))) := (HLX2.out.trans (own_belowX HOW3.out hbs3 hga |>.mono (Nat.le_succ _))).setCell (Nat.le_refl _) _
                          generalize w5.setCell ⟨Bs, 3, none⟩ (.slice (some ⟨g, 0, none⟩) (t + 1) cap) = w6 at HN5 HR5 HB5 ⊢
                          clear hown5 hg5 hga hat5 hk5 d5 f5 d0 d0a d0b
                          go_wp2_with fail
                          go_meet
                          case rel => exact ⟨rfl, _, HN5, HR5, HB5⟩
                      case rest =>
                        rename World => wx3
                        obtain ⟨rfl, vT1, HBX3, HRX3, HLX3⟩ := hcut
                        clear d0 d0a d0b
                        have hs9 := HS10.out.call (by rw [HBLK0.out]; exact HLX3.out)
                        obtain ⟨g0, g2, g3⟩ := hs9.geo
                        clear hs9
                        go_wp2_with fail
                        refine ⟨⟨t + 1, p + 10, _, _, _, hlt, by go_num, by go_num, by have := HP.out; omega, HBX3, ?_, HLX3⟩, ?_⟩
                        · have h5 := HRX3.out
                          rw [HN1.out, HN2.out, HN3.out, ← HEC.out.1, ← HEC.out.2.1, ← HEC.out.2.2] at h5
                          show FourR _ _ _ _
                          simp only [List.range_succ, List.map_append]
                          exact h5
                        · simp [intOf]; omega
                · obtain rfl : t = M := by omega
                  have hltz : ¬ (t : Int) < (t : Int) := by omega
                  clear hlt
                  go_wp2_with fail
                  clear g0 g2 g3 hltz ht
                  have HS9 : Hid (SnW w t l Y j s r nil4 wr) := HS10.out.call (by rw [HBLK0.out]; exact HBL3.out)
                  have hps0 : p ≤ text.size := by have := HP.out; have := HTB.out; omega
                  have htb := HTB.out.2
                  go_loopw [12] (fun zv wq => ∃ z : Nat, p ≤ z ∧ z ≤ text.size ∧ zv = .int .i64 z ∧ Hid (∀ y, p ≤ y → y < z → byteT text y = 0) ∧ wq = wr) (fun zv _ => text.size + 1 - (intOf zv).toNat)
                  case atStart => exact ⟨p, Nat.le_refl _, hps0, rfl, fun y h1 h2 => absurd h2 (by omega), rfl⟩
                  case round =>
                    obtain ⟨z, hz0, hz1', rfl, HZ, rfl⟩ := hrel
                    by_cases hlt2 : z < text.size
                    · have hltj : (z : Int) < (text.size : Int) := by omega
                      have hbj := byteT_get9 text z hlt2
                      obtain ⟨c, hc⟩ : ∃ c : Nat, text[z].toNat = c := ⟨_, rfl⟩
                      rw [hc] at hbj
                      have HBJ := Lib.hid hbj
                      clear hbj
                      by_cases hc0 : c = 0
                      · subst hc0
                        have HJ2 : Hid (∀ y, p ≤ y → y < z + 1 → byteT text y = 0) := fun y h1 h2 => by
                          rcases Nat.lt_or_ge y z with h3 | h3
                          · exact HZ.out y h1 h3
                          · obtain rfl : y = z := by omega
                            exact HBJ.out.symm
                        go_wp2_with fail
                        go_roundw
                        case rel => exact ⟨z + 1, by omega, by omega, by go_num, HJ2, trivial⟩
                        case measure => simp [intOf]; omega
                      · have hcb : ((c : Int) == 0) = false := by simp; omega
                        have HNP : Hid (¬ PagesOk ps t j i Y) := fun h => by
                          have h3 := h.2.2 z (by rw [← HP.out]; exact hz0) (by rw [← HT.out]; exact hlt2)
                          rw [HTX.out, ← HBJ.out] at h3
                          omega
                        go_wp2_with (first
                          | (refine wpList_store_row rfl 26 (.tmp 4) (.tmp 123) rfl (w.heap.size + 1) nil4 rfl rfl 26 nil4 HS9.out.1.2.2 size_state rfl nil4_one ?_))
                        refine bodyPost_ret (results_cell_tmp rfl _ _ (w.heap.size + 1) 26 nil4 _ rfl (HS9.out.1.2.2.put _) Tryd.underlying26 rfl size_state) rfl ?_
                        exact HNO.out HNP.out _ (below_row HS9.out _)
                    · obtain rfl : z = text.size := by omega
                      have hltj : ¬ (text.size : Int) < (text.size : Int) := by omega
                      have HPO : Hid (PagesOk ps t j i Y) := ⟨HL.out, fun q hq => by
                          obtain ⟨k, hk, rfl⟩ := List.getElem_of_mem hq
                          exact HI.out.2.1 k hk (by have := HL.out; omega), fun y h1 h2 => by
                          rw [HTX.out]; exact HZ.out y (by rw [HP.out]; exact h1) (by rw [HT.out]; exact h2)⟩
                      have HON : Hid ((#[vF, vC, vS, vT] : Array Value).all (·.oneCell') = true) := HR3.out.one
                      have HSA : Hid (SnAt (wr.setRow (w.heap.size + 1) #[vF, vC, vS, vT]) #[vF, vC, vS, vT] (ofText (catP ps) t j)) := by
                        have h1 := (HR3.out.setRow (b := w.heap.size + 1) (by have := HBS2.out; omega) #[vF, vC, vS, vT]).snat
                        rw [HTX.out]
                        rw [← HLF.out] at h1
                        exact h1
                      clear hlt2 hz1'
                      go_wp2_with (first
                        | (refine wpList_load_row rfl 26 (.tmp 8) rfl Bs rfl 26 #[vF, vC, vS, vT] (0, 0) _ HBK3.out Tryd.underlying26 rfl size_state ?_)
                        | (refine wpList_store_row rfl 26 (.tmp 4) (.tmp 124) rfl (w.heap.size + 1) #[vF, vC, vS, vT] rfl rfl 26 nil4 HS9.out.1.2.2 size_state rfl HON.out ?_))
                      refine bodyPost_ret (results_cell_tmp rfl _ _ (w.heap.size + 1) 26 #[vF, vC, vS, vT] _ rfl (HS9.out.1.2.2.put _) Tryd.underlying26 rfl size_state) rfl ?_
                      refine ⟨fun h => absurd HOK.out h, fun _ h => absurd (by rw [HKS.out]; exact HPO.out) h, fun _ _ => ⟨_, rfl, HSA.out⟩, below_row HS9.out _⟩
        · have hb1 : ((i : Int) != (K : Int)) = true := by rw [bne_iff_ne]; omega
          have HNP : Hid (¬ PagesOk ps M N K Y) := fun h => hlk (by rw [← h.1]; exact HL.out.symm)
          clear hlk htk
          go_wp2_with (first
            | (refine wpList_load_row rfl 23 (.tmp 2) rfl w.heap.size rfl 23 (gv M l Y N s r) (0, 0) _ HSR.out.1.2.1 Tryd.underlying23 rfl size_geo ?_))
          refine (snaps_stay (snw_stay w M l Y N s r nil4) M l Y N s r K wr HSR.out HOK.out.1 HKS.out).mono ?_
          rintro e w10 ⟨rfl, hs10⟩
          have HS9 := Lib.hid hs10
          clear hs10 c0 c2 c3 c4 c5 c6
          go_wp2_with (first
            | (refine wpList_store_row rfl 26 (.tmp 4) (.tmp 49) rfl (w.heap.size + 1) nil4 rfl rfl 26 nil4 HS9.out.1.2.2 size_state rfl nil4_one ?_))
          refine bodyPost_ret (results_cell_tmp rfl _ _ (w.heap.size + 1) 26 nil4 _ rfl (HS9.out.1.2.2.put _) Tryd.underlying26 rfl size_state) rfl ?_
          exact HNO.out HNP.out _ (below_row HS9.out _)
  · have HK := Lib.hid hck
    have HOK := Lib.hid hok
    clear hck hok
    go_enter Tryd.func10, Tryd.ntmps10
    go_wp2_with (first
      | (change wpList _ _ _ _ _ ((w.alloc (.cells (gv b l y n s r) 23)).alloc (.cells nil4 26)); rw [HW2.out]; refine wpList_load_row rfl 23 (.tmp 2) rfl w.heap.size rfl 23 (gv b l y n s r) (0, 0) _ HSW.out.1.2.1 Tryd.underlying23 rfl size_geo ?_))
    refine (rge_check b l y n s r w2).mono ?_
    rintro e w3 ⟨rfl, hb3⟩
    rw [HK.out]
    have HS3 : Hid (SnW w b l y n s r nil4 w3) := HSW.out.call hb3
    clear hb3
    go_wp2_with (first
      | (refine wpList_store_row rfl 26 (.tmp 4) (.tmp 16) rfl (w.heap.size + 1) nil4 rfl rfl 26 nil4 HS3.out.1.2.2 size_state rfl nil4_one ?_))
    exact bodyPost_ret (results_cell_tmp rfl _ _ (w.heap.size + 1) 26 nil4 _ rfl (HS3.out.1.2.2.put _) Tryd.underlying26 rfl size_state) rfl ⟨fun _ => rfl, fun h => absurd h HOK.out, fun h => absurd h HOK.out, below_row HS3.out _⟩

end Go.Proofs.YtidakannaephoaaDoor
