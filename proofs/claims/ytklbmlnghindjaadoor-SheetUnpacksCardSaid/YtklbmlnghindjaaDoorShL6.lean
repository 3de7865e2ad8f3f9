/- Layer 12: SheetUnpacks's walk. -/
import Derived.Test.YtklbmlnghindjaaDoorShL5
import Derived.Test.YtklbmlnghindjaaDoorRngQ
import Derived.StillTailTactics
import Derived.Deep.RegionLaw
namespace Go.Proofs.YtklbmlnghindjaaDoor
set_option maxRecDepth 100000
open Go.RowKit
attribute [local go_sem] Oper.semAt_some

set_option maxHeartbeats 4000000 in
theorem walk_SheetUnpacks (oa : Option Addr) (cap : Nat) (l : List ByteArray) (most : Int) (hlc : (l.length ≤ cap ∧ cap ≤ maxLen) ∧ ∀ p ∈ l, p.size ≤ maxLen) (_ : (Lit.int .i64 most).wf = true) (w : World) (ha : TxAt w oa l) :
    Calls Tryd.prog 3 #[.slice oa l.length cap, .int .i64 most] w fun e w' => e = .returned (.bool true) ∧ Below w.heap.size w w' := by
  have HA := Lib.hid ha
  obtain ⟨len, hlen⟩ : ∃ len, l.length = len := ⟨_, rfl⟩
  have HLEN := Lib.hid hlen
  have HSZ := Lib.hid hlc.2
  have hml2 : (len : Int) ≤ 9223372036854775807 := by have := hlc.1; unfold maxLen at this; omega
  rw [hlen]
  clear ha hlen hlc
  refine calls_of_marks Tryd.func3 rfl ?_
  simp only [Tryd.ntmps3, List.size_toArray, List.length_cons, List.length_nil, Nat.reduceAdd, Nat.reduceSub, Array.replicate_succ, Array.replicate_zero, List.push_toArray, List.append_toArray, List.nil_append, List.cons_append]
  by_cases hbig : 50 < len
  · have hbi : (50 : Int) < (len : Int) := by omega
    have hbd : decide ((50 : Int) < (len : Int)) = true := decide_eq_true hbi
    go_wp2_with fail
    have hbb : Below w.heap.size w ((w.alloc (.cells #[.int .i64 most] 3)).alloc (.cells #[.bool false] 4)) := ((Below.refl _ _).alloc (Nat.le_refl _) _).alloc (by simp) _
    have kr : Blk ((w.alloc (.cells #[.int .i64 most] 3)).alloc (.cells #[.bool false] 4)) (w.heap.size + 1) #[.bool false] 4 := by
      have h := Blk.new (w.alloc (.cells #[.int .i64 most] 3)) #[.bool false] 4
      rwa [World.size_alloc] at h
    have HBB := Lib.hid hbb
    have KR := Lib.hid kr
    clear hbb kr
    refine (sh_works _).mono ?_
    rintro e w1 ⟨rfl, hb1⟩
    have HB1 := Lib.hid (HBB.out.trans (hb1.mono HBB.out.size))
    have kr1 := KR.out.after hb1
    have cr := kr1.cell 0
    have fr := kr1.free 0
    have KR1 := Lib.hid kr1
    clear hb1 kr1 HBB KR
    go_wp2_with fail
    exact leave_none rfl (results_cell_oneX rfl _ _ (w.heap.size + 1) (.bool true) rfl ((KR1.out.set 0 _ rfl).cell 0) Tryd.isAgg4) ⟨rfl, HB1.out.setCell (p := ⟨w.heap.size + 1, 0, none⟩) (by show _ ≤ w.heap.size + 1; omega) _⟩
  · have hbi : ¬ (50 : Int) < (len : Int) := by omega
    have hbd : decide ((50 : Int) < (len : Int)) = false := decide_eq_false hbi
    have hl50 : len ≤ 50 := by omega
    clear hbig
    go_wp2_with fail
    obtain ⟨W0, hW0, hS0⟩ := un_start w most
    rw [hW0]
    obtain ⟨b, hb⟩ : ∃ b, w.heap.size = b := ⟨_, rfl⟩
    have HB := Lib.hid hb
    rw [hb] at hS0 ⊢
    have HS0 := Lib.hid hS0
    clear hS0 hW0 hb
    go_loopw [7, 8] (fun hv iv wr => ∃ (i : Nat) (wh : Bool) (T : List (Nat × Rc)), i ≤ len ∧ iv = .int .i64 i ∧ hv = .bool wh ∧ Hid (UnS w b most T T wr) ∧ Hid (toldE 0 l = T ++ (if wh then toldE i (l.drop i) else []))) (fun _ iv _ => len - (intOf iv).toNat)
    case atStart => exact ⟨0, true, [], Nat.zero_le _, rfl, rfl, HS0.out, by show toldE 0 l = [] ++ (if true then toldE 0 (l.drop 0) else []); simp⟩
    case round =>
      obtain ⟨i, wh, T, hi, rfl, rfl, HU, HT⟩ := hrel
      by_cases hlt : i < len
      · have hltz : (i : Int) < (len : Int) := by omega
        have hil : i < l.length := by rw [HLEN.out]; exact hlt
        obtain ⟨g0, o0, rfl, hg0, hc0⟩ := HA.out (by intro h0; rw [h0] at hil; exact absurd hil (Nat.not_lt_zero _))
        have hc1 := hc0 i hil
        have hps := HSZ.out l[i] (List.getElem_mem hil)
        have hdr : l.drop i = l[i] :: l.drop (i + 1) := List.drop_eq_getElem_cons hil
        generalize l[i] = p at hc1 hps hdr
        have hcw : wr.cell? ⟨g0, o0 + i, none⟩ = some (.string p) := (HU.out.below.cell (p := ⟨g0, o0 + i, none⟩) (cell_lt hc1)).trans hc1
        have HDR := Lib.hid hdr
        have HG0 := Lib.hid hg0
        have HC1 := Lib.hid hc1
        have hpz : (p.size : Int) ≤ 9223372036854775807 := by unfold maxLen at hps; omega
        have HPS := Lib.hid hps
        clear hc0 hc1 hdr hg0 hps hil
        by_cases hp3 : 300 < p.size
        · have hpi : (300 : Int) < (p.size : Int) := by omega
          have hpd : decide ((300 : Int) < (p.size : Int)) = true := decide_eq_true hpi
          go_wp2_with fail
          refine (sh_works _).mono ?_
          rintro e w1 ⟨rfl, hb1⟩
          have HU1 := Lib.hid (HU.out.after hb1)
          have cr := HU1.out.r.cell 0
          have fr := HU1.out.r.free 0
          clear hb1 hcw
          go_wp2_with fail
          exact leave_none rfl (results_cell_oneX rfl _ _ (b + 1) (.bool true) rfl ((HU1.out.r.set 0 _ rfl).cell 0) Tryd.isAgg4) ⟨rfl, HU1.out.below.setCell (p := ⟨b + 1, 0, none⟩) (by show _ ≤ b + 1; have := HB.out; omega) _⟩
        · have hpi : ¬ (300 : Int) < (p.size : Int) := by omega
          have hpd : decide ((300 : Int) < (p.size : Int)) = false := decide_eq_false hpi
          have HUP := Lib.hid (sh_unpack p HPS.out wr)
          clear hp3
          go_wp2_with fail
          refine HUP.out.mono ?_
          rintro e w1 h1
          obtain ⟨v, rfl, hown1, hb1⟩ := unpT_all h1
          have HOW1 := Lib.hid hown1
          have HB1 := Lib.hid hb1
          have hcw1 := (hb1.cell (p := ⟨g0, o0 + i, none⟩) (cell_lt hcw)).trans hcw
          have HRP := Lib.hid (rsh_unpack p HPS.out w1)
          obtain ⟨ec, hec⟩ : ∃ ec, unpC p = ec := ⟨_, rfl⟩
          have HEC := Lib.hid hec
          rw [hec]
          clear h1 hown1 hb1 HUP hec hcw
          go_wp2_with fail
          refine HRP.out.mono ?_
          rintro e w2 h2
          obtain ⟨v2, rfl, hown2, hb2⟩ := unpT_all h2
          rw [HEC.out]
          have HB2 := Lib.hid (HB1.out.trans (hb2.mono HB1.out.size))
          have HOW2 := Lib.hid hown2
          have HOW12 := Lib.hid (ownsRow_afterX HOW1.out hb2)
          have hz : (recsU p).length ≤ 1000000 := by have := recsU_len p; omega
          have HSAME := Lib.hid (book_recs w2 v v2 (recsU p) hz (RsAt.own rfl HOW12.out) (RsAt.own rfl hown2))
          clear h2 hown2 hb2 HRP hcw1 hz
          go_wp2_with fail
          refine HSAME.out.mono ?_
          rintro e w3 ⟨rfl, hb3⟩
          have HB3 := Lib.hid (HB2.out.trans (hb3.mono HB2.out.size))
          have HOW13 := Lib.hid (ownsRow_afterX HOW12.out hb3)
          have HOW23 := Lib.hid (ownsRow_afterX HOW2.out hb3)
          have HSP := Lib.hid (spoil_recs w3 wr.heap.size _ v _ (by have := recsU_len p; omega) HOW13.out)
          have HAP : Hid (∀ g, v2.ownBlock = some g → some g ≠ v.ownBlock ∧ w1.heap.size ≤ g) := fun g hg => by
            have h3 := (HOW2.out.lt g hg).1
            exact ⟨fun e => by have := (HOW1.out.lt g e.symm).2; omega, h3⟩
          clear hb3 HSAME
          go_wp2_with fail
          refine HSP.out.mono ?_
          rintro e w4 ⟨rfl, hg4⟩
          have HB4 : Hid (Below wr.heap.size wr w4) := HB3.out.grown hg4 HB3.out.size (fun r e => (HOW13.out.lt r e).1)
          have HOW24 : Hid (w4.ownsRow w1.heap.size 32 3 v2 (recsU p).length (flatX (recsU p))) := ownsRow_keepX HOW23.out (fun g hg => hg4.block g (HOW23.out.lt g hg).2 (HAP.out g hg).1)
          have HU4 := Lib.hid (HU.out.after HB4.out)
          clear hg4 HSP HOW13 HOW23 HOW12 HOW1 HOW2 HB3 HB2 HAP
          by_cases hgo : wh = true ∧ PageOk p
          · obtain ⟨rfl, hpo⟩ := hgo
            obtain ⟨_, hc0, hru⟩ : PageOk p ∧ unpC p = 0 ∧ recsU p = recsT p := by
              rcases unpC_cases p with h | h
              · exact h
              · exact absurd hpo h.1
            obtain rfl : ec = 0 := by rw [← HEC.out]; exact hc0
            have hT := HT.out
            rw [if_pos rfl, HDR.out, toldE_ok hpo] at hT
            have how := HOW24.out
            rw [hru] at how
            obtain ⟨xs, hxs⟩ : ∃ xs, recsT p = xs := ⟨_, rfl⟩
            rw [hxs] at hT how
            obtain ⟨q, hq⟩ : ∃ q, xs.length = q := ⟨_, rfl⟩
            have hq28 : q ≤ 28 := by have := recsU_len p; rw [hru, hxs] at this; omega
            have hq1 : 1 ≤ q := by have := hpo.many; have := recsT_len p; rw [hxs] at this; omega
            rw [hq] at how
            have htl : T.length ≤ 1400 := by
              have h1 := toldE_len l 0
              rw [hT, List.length_append] at h1
              have := HLEN.out
              omega
            obtain ⟨gB, c2, cur, rfl, hbB, hgB, ht⟩ : ∃ gB c2 cur, v2 = .slice (some ⟨gB, 0, none⟩) q c2 ∧ w1.heap.size ≤ gB ∧ Blk w4 gB cur 32 ∧ cur.toList.take (q * 3) = flatX xs := by
              rcases how.2 with ⟨_, h0⟩ | ⟨gB, c2, cur, h1, h2, h3, _, _, _, h4⟩
              · omega
              · exact ⟨gB, c2, cur, h1, h2, h3, h4⟩
            have hgw : wr.heap.size ≤ gB := Nat.le_trans HB1.out.size hbB
            have HWN : Hid (∀ u, Boxed w4 (b + 1 + 1) 24 u → u.ownBlock ≠ some gB) := fun u hu he => by
              obtain ⟨u', h1, h2, _⟩ := HU.out.want
              have h3 : Boxed w4 (b + 1 + 1) 24 u' := boxed_afterX h1 HB4.out
              have h4 : u = u' := by
                have h5 := (show w4.heap[b + 1 + 1]? = _ from hu).symm.trans h3
                simp at h5
                exact h5
              subst h4
              have := (h2.lt gB he).2
              omega
            have HCUR := Lib.hid ht
            have HGB : Hid (Blk w4 gB cur 32) := hgB
            have HGE : Hid (b + 4 ≤ gB) := by have := HU.out.size; show b + 4 ≤ gB; omega
            have HT2 := Lib.hid hT
            have HQ := Lib.hid hq
            have HTL := Lib.hid htl
            clear hpo hc0 hru hT how hxs hq htl hbB hgB ht hgw HT HOW24 HU HB4 HB1 HEC HDR
            go_wp2_with fail
            go_loopw [13] (fun jv wr2 => ∃ j : Nat, j ≤ q ∧ jv = .int .i64 j ∧ Hid (UnS w b most (T ++ (xs.take j).map fun x => (i, x)) (T ++ (xs.take j).map fun x => (i, x)) wr2) ∧ Hid (Blk wr2 gB cur 32) ∧ Hid (∀ u, Boxed wr2 (b + 1 + 1) 24 u → u.ownBlock ≠ some gB)) (fun jv _ => q - (intOf jv).toNat)
            case atStart => exact ⟨0, Nat.zero_le _, rfl, by rw [List.take_zero, List.map_nil, List.append_nil]; exact HU4.out, HGB.out, HWN.out⟩
            case round =>
              clear HU4 HGB HWN
              obtain ⟨j, hj, rfl, HU, HGB, HWN⟩ := hrel
              by_cases hlt2 : j < q
              · have hltj : (j : Int) < (q : Int) := by omega
                have hjx : j < xs.length := by rw [HQ.out]; exact hlt2
                obtain ⟨x, hx⟩ : ∃ x, xs[j] = x := ⟨_, rfl⟩
                have hrow : wr.rangeAt gB (j * 3) [.int .i64 x.k, .int .i64 x.a, .int .i64 x.b] := fun t v hv => by
                  have ht3 : t < 3 := (List.getElem?_eq_some_iff.1 hv).1
                  have h5 := flatX_get xs j t hjx ht3
                  rw [hx] at h5
                  rw [HGB.out.cell, ← Array.getElem?_toList, ← List.getElem?_take_of_lt (show j * 3 + t < q * 3 by omega), HCUR.out, h5]
                  exact hv
                have hstep : (T ++ (xs.take j).map fun x => (i, x)) ++ [(i, x)] = T ++ (xs.take (j + 1)).map fun x => (i, x) := by
                  rw [List.append_assoc, flat_take xs j hjx, List.map_append, hx]; rfl
                have hlen : (T ++ (xs.take j).map fun x => (i, x)).length ≤ 1428 := by
                  rw [List.length_append, List.length_map, List.length_take]; have := HTL.out; omega
                obtain ⟨Tj, hTj⟩ : ∃ Tj, (T ++ (xs.take j).map fun x => (i, x)) = Tj := ⟨_, rfl⟩
                rw [hTj] at HU hstep hlen
                obtain ⟨u, hbu, hou, _⟩ := HU.out.want
                have c5 : wr.cell? ⟨b + 1 + 1, 0, none⟩ = some u := hbu.cell
                obtain ⟨ua, uc, hu⟩ : ∃ ua uc, u = .slice ua Tj.length uc := by
                  rcases hou.2 with ⟨h, h0⟩ | ⟨g, cap, cur, h, _⟩
                  · exact ⟨none, 0, by rw [h, h0]⟩
                  · exact ⟨_, cap, h⟩
                subst hu
                have HSTEP := Lib.hid hstep
                have HROW := Lib.hid hrow
                have HBU := Lib.hid hbu
                have HOU := Lib.hid hou
                have hne := HWN.out _ hbu
                have HNE := Lib.hid hne
                obtain ⟨i0, hi0, hz0, hz1, hz2⟩ := info_partsX infoRec
                have hgl : gB < wr.heap.size := HGB.out.lt
                have hsz : b + 4 ≤ wr.heap.size := HU.out.size
                have d0 : wr.cell? ⟨gB, j * 3, none⟩ = some (.int .i64 x.k) := hrow 0 _ rfl
                have d1 : wr.cell? ⟨gB, j * 3 + 1, none⟩ = some (.int .i64 x.a) := hrow 1 _ rfl
                have d2 : wr.cell? ⟨gB, j * 3 + 2, none⟩ = some (.int .i64 x.b) := hrow 2 _ rfl
                have e5 : (wr.alloc (.cells #[.int .i64 x.k, .int .i64 x.a, .int .i64 x.b] 32)).drew.cell? ⟨b + 1 + 1, 0, none⟩ = some (.slice ua Tj.length uc) := Lib.cell?_alloc_some _ c5
                have HOA : Hid ((wr.alloc (.cells #[.int .i64 x.k, .int .i64 x.a, .int .i64 x.b] 32)).drew.ownsRow (b + 4) 32 3 (.slice ua Tj.length uc) Tj.length (flatX (Tj.map (·.2)))) := ownsRow_keepX (hou.alloc _) (fun _ _ => rfl)
                have HUD := Lib.hid HU.out.drew
                have HBD : Hid (Boxed wr.drew (b + 1 + 1) 24 (.slice ua Tj.length uc)) := hbu
                have HOD : Hid (wr.drew.ownsRow (b + 4) 32 3 (.slice ua Tj.length uc) Tj.length (flatX (Tj.map (·.2)))) := ownsRow_keepX hou (fun _ _ => rfl)
                clear hrow hstep hTj hbu hou hne hx hjx HWN
                go_wp2_with fail
                refine Code.wp_mono (fun _ _ _ h => NQ.to h) ?_
                go_region_law (refine step_append_lies _ rfl (.tmp 76) (.tmp 81) 24 rfl (b + 4) 32 i0 (.agg (ra 0 0 0)) 3 24 Tryd.underlying24 hi0 hz0 hz1 hz2 rfl (by decide) (.slice ua Tj.length uc) Tj.length _ (by simp [Act.eval]) (by first | exact HOD.out.alloc _ | exact HOA.out) ⟨wr.heap.size, 0, none⟩ 1 1 [.int .i64 x.k, .int .i64 x.a, .int .i64 x.b] (by simp [Act.eval]) rfl (fun j u hj => cells_newX wr #[.int .i64 x.k, .int .i64 x.a, .int .i64 x.b] 32 j u hj) (by intro u hu; simp at hu; rcases hu with rfl | rfl | rfl <;> rfl) (by decide) (by unfold maxLen; omega) (by omega) (by simp; omega) _ rfl ?_; intro g' cap' w5 hown5 hg5 hat5 _; obtain ⟨hu5, hb5, hbn5, hk5⟩ := un_want (x := (i, x)) (o := .cells #[.int .i64 x.k, .int .i64 x.a, .int .i64 x.b] 32) HUD.out HBD.out HOD.out hown5 hg5; have c5' := hb5.cell; have f5' := hb5.frozen; have HU5 := Lib.hid hu5; have HBN5 := Lib.hid hbn5; have HG5 := Lib.hid hg5; have HAT5 := Lib.hid hat5; have HSZ5 := Lib.hid hown5; clear hu5 hb5 hbn5 hk5 hown5 hg5 hat5)
                all_goals
                  have hfr := app_frame (W := wr.drew) (v' := .slice (some ⟨g', 0, none⟩) (Tj.length + 1) cap') (B := b + 1 + 1) HG5.out
                  have HGB6 : Hid (Blk (w5.setCell ⟨b + 1 + 1, 0, none⟩ (.slice (some ⟨g', 0, none⟩) (Tj.length + 1) cap')) gB cur 32) := (hfr gB hgl (by have := HGE.out; omega) (fun e => HNE.out e.symm)).trans HGB.out
                  have HNE6 : Hid ((Value.slice (some ⟨g', 0, none⟩) (Tj.length + 1) cap').ownBlock ≠ some gB) := fun e => by
                    rcases HAT5.out with h | h
                    · exact HNE.out (h.trans e)
                    · have e2 : g' = gB := by simpa [Value.ownBlock] using e
                      have h2 : wr.heap.size ≤ g' := by rw [h]; show _ ≤ (wr.alloc _).heap.size; rw [World.size_alloc]; omega
                      omega
                  clear hfr HG5 HAT5 HSZ5 c5' f5' e5 d0 d1 d2 c5 HUD HBD HOD HOA HROW HBU HOU HNE HGB
                  obtain ⟨w6, hw6⟩ : ∃ w6, w5.setCell ⟨b + 1 + 1, 0, none⟩ (.slice (some ⟨g', 0, none⟩) (Tj.length + 1) cap') = w6 := ⟨_, rfl⟩
                  rw [hw6] at HU5 HBN5 HGB6 ⊢
                  clear hw6
                  obtain ⟨uP, hbp, hop, _⟩ := HU5.out.places
                  obtain ⟨pa, pc, hup⟩ : ∃ pa pc, uP = .slice pa Tj.length pc := by
                    rcases hop.2 with ⟨h, h0⟩ | ⟨g, cap, cur, h, _⟩
                    · exact ⟨none, 0, by rw [h, h0]⟩
                    · exact ⟨_, cap, h⟩
                  subst hup
                  have c6 := hbp.cell
                  have HBP := Lib.hid hbp
                  have HOP := Lib.hid hop
                  obtain ⟨i1, hi1, hy0, hy1, hy2⟩ := info_partsX infoIntX
                  have hsz6 : b + 4 ≤ w6.heap.size := HU5.out.size
                  have HCN := Lib.hid (cells_newX w6 #[.int .i64 (i : Int)] 3)
                  clear hbp hop
                  refine NQ.normal ?_
                  go_wp2_with (at_builtin; refine wpList_append_own _ rfl _ _ 25 rfl (b + 4) 3 i1 (.int .i64 0) 1 8 Tryd.underlying25 hi1 hy0 hy1 hy2 rfl (by decide) _ _ _ rfl (HOP.out.alloc _) ⟨w6.heap.size, 0, none⟩ 1 1 [.int .i64 (i : Int)] rfl rfl HCN.out (by intro u hu; simp at hu; subst hu; rfl) (by unfold maxLen; omega) (by omega) (by simp; omega) ?_)
                  intro v7 w7 hown7 hg7 _
                  obtain ⟨g7, cap7, rfl⟩ := ownsRow_succ hown7
                  obtain ⟨hu7, hb7, hbw7, _⟩ := un_place (x := (i, x)) HU5.out HBP.out HOP.out hown7 hg7
                  have hfr7 := app_frame (v' := .slice (some ⟨g7, 0, none⟩) (Tj.length + 1) cap7) (B := b + 1 + 1 + 1) hg7
                  have c7 := hb7.cell
                  have f7 := hb7.frozen
                  have HGB8 : Hid (Blk (w7.setCell ⟨b + 1 + 1 + 1, 0, none⟩ (.slice (some ⟨g7, 0, none⟩) (Tj.length + 1) cap7)) gB cur 32) := (hfr7 gB HGB6.out.lt (by have := HGE.out; omega) (fun e => by
                    rcases HOP.out.2 with ⟨h1, _⟩ | ⟨g1, c1, r1, h1, _, h2, _⟩
                    · rw [h1] at e; cases e
                    · rw [h1] at e
                      have e2 : gB = g1 := by simpa [Value.ownBlock] using e
                      subst e2
                      have h3 := (show w6.heap[gB]? = _ from HGB6.out).symm.trans h2
                      simp at h3)).trans HGB6.out
                  have HWN8 : Hid (∀ u, Boxed (w7.setCell ⟨b + 1 + 1 + 1, 0, none⟩ (.slice (some ⟨g7, 0, none⟩) (Tj.length + 1) cap7)) (b + 1 + 1) 24 u → u.ownBlock ≠ some gB) := fun u hu => by
                    have h5 := (show (w7.setCell ⟨b + 1 + 1 + 1, 0, none⟩ (.slice (some ⟨g7, 0, none⟩) (Tj.length + 1) cap7)).heap[b + 1 + 1]? = _ from hu).symm.trans (hbw7 _ HBN5.out)
                    simp at h5
                    rw [h5]
                    exact HNE6.out
                  have HU8 : Hid (UnS w b most (T ++ (xs.take (j + 1)).map fun x => (i, x)) (T ++ (xs.take (j + 1)).map fun x => (i, x)) (w7.setCell ⟨b + 1 + 1 + 1, 0, none⟩ (.slice (some ⟨g7, 0, none⟩) (Tj.length + 1) cap7))) := by
                    show UnS _ _ _ _ _ _
                    rw [← HSTEP.out]; exact hu7
                  clear hu7 hb7 hbw7 hfr7 hown7 hg7 HU5 HBN5 HGB6 HNE6 HBP HOP HCN hi1 hy0 hy1 hy2 hi0 hz0 hz1 hz2 c6 HSTEP
                  go_wp2_with fail
                  go_roundw
                  case rel => exact ⟨j + 1, by omega, by go_num, HU8, HGB8, HWN8⟩
                  case measure => simp [intOf]; omega
              · obtain rfl : j = q := by omega
                have hltj : ¬ (j : Int) < (j : Int) := by omega
                have hltd : decide ((j : Int) < (j : Int)) = false := decide_eq_false hltj
                have hall : xs.take j = xs := List.take_of_length_le (by rw [HQ.out]; exact Nat.le_refl _)
                rw [hall] at HU
                have HT3 : Hid (toldE 0 l = (T ++ xs.map fun x => (i, x)) ++ (if true then toldE (i + 1) (l.drop (i + 1)) else [])) := by
                  show _ = _
                  rw [HT2.out, List.append_assoc]; simp
                clear hall HT2
                go_wp2_with fail
                go_roundw
                case rel => exact ⟨i + 1, true, _, by omega, by go_num, rfl, HU, HT3⟩
                case measure => simp [intOf]; omega
          · have HT3 : Hid (toldE 0 l = T ++ (if false then toldE (i + 1) (l.drop (i + 1)) else [])) := by
              show toldE 0 l = T ++ (if false = true then toldE (i + 1) (l.drop (i + 1)) else [])
              have hT := HT.out
              cases wh with
              | false => simpa using hT
              | true =>
                have hno : ¬ PageOk p := fun h => hgo ⟨rfl, h⟩
                rw [HDR.out, toldE_no hno] at hT
                simpa using hT
            have hwe : wh = false ∨ (wh = true ∧ (ec = 2 ∨ ec = 3)) := by
              cases wh with
              | false => exact .inl rfl
              | true =>
                rcases unpC_cases p with h | h
                · exact absurd ⟨rfl, h.1⟩ hgo
                · exact .inr ⟨rfl, by rw [← HEC.out]; exact h.2.1⟩
            obtain ⟨a2, q, c2, hv2⟩ : ∃ a2 q c2, v2 = .slice a2 q c2 := by
              obtain ⟨a2, c2, h, _⟩ := RsAt.own rfl HOW24.out
              exact ⟨a2, _, c2, h⟩
            subst hv2
            clear hgo HT HEC HOW24 HU HB4 HB1 HDR
            rcases hwe with rfl | ⟨rfl, rfl | rfl⟩
            all_goals
              go_wp2_with fail
              go_loopw [13] (fun jv wr2 => jv = .int .i64 0 ∧ wr2 = w4) (fun _ _ => 0)
              case atStart => exact ⟨rfl, rfl⟩
              case round =>
                obtain ⟨rfl, rfl⟩ := hrel
                by_cases hq0 : (0 : Int) < (q : Int)
                · have hqd : decide ((0 : Int) < (q : Int)) = true := decide_eq_true hq0
                  go_wp2_with fail
                  go_roundw
                  case rel => exact ⟨i + 1, false, T, by omega, by go_num, rfl, HU4, HT3⟩
                  case measure => simp [intOf]; omega
                · have hqd : decide ((0 : Int) < (q : Int)) = false := decide_eq_false hq0
                  go_wp2_with fail
                  go_roundw
                  case rel => exact ⟨i + 1, false, T, by omega, by go_num, rfl, HU4, HT3⟩
                  case measure => simp [intOf]; omega
      · obtain rfl : i = len := by omega
        have hltz : ¬ (i : Int) < (i : Int) := by omega
        have hT := HT.out
        rw [List.drop_eq_nil_of_le (by rw [HLEN.out]; exact Nat.le_refl _), show toldE i [] = [] from rfl] at hT
        have HT2 : Hid (toldE 0 l = T) := by show toldE 0 l = T; cases wh <;> simpa using hT
        have HEA := Lib.hid (sh_each oa cap l (by rw [HLEN.out]; omega) wr (HA.out.below HU.out.below))
        rw [HLEN.out] at HEA
        have HSR := Lib.hid HU.out.size
        clear hT HT HS0
        go_wp2_with fail
        refine HEA.out.mono ?_
        rintro e w1 ⟨B, g, rfl, hcap, hbg, hge, hb1⟩
        have HU1 := Lib.hid (HU.out.after hb1)
        have heq : ∀ w, Sem.run Tryd.prog (binOp .eql 34 (.func (.func 20) #[] #[.pointer (some ⟨B, 0, none⟩)]) .nilFunc) w = .ok (.bool false) w := fun w => rfl
        have HCAP := Lib.hid hcap
        have HBG := Lib.hid hbg
        have HGE := Lib.hid hge
        clear hcap hbg hge hb1 HEA HU
        go_wp2_with (rw [heq])
        have hpb : ∀ x, Boxed w1 (b + 1 + 1 + 1) 25 x → ∀ g, x.ownBlock = some g → g < w1.heap.size := fun x hx g he => by
          obtain ⟨y, h1, h2, _⟩ := HU1.out.places
          have h5 := (show w1.heap[b + 1 + 1 + 1]? = _ from hx).symm.trans h1
          simp at h5
          subst h5
          exact own_lt h2 g he
        have HPB := Lib.hid hpb
        have HSZ1 := Lib.hid HU1.out.size
        clear hpb
        obtain ⟨c15, hc15⟩ : ∃ c, w1.heap.size = c := ⟨_, rfl⟩
        have hk15 : Blk (w1.alloc (.cells #[.int .i64 0] 3)) c15 #[.int .i64 ((0 : Nat) : Int)] 3 := by rw [← hc15]; exact Blk.new _ _ _
        have hb2 : Below w1.heap.size w1 (w1.alloc (.cells #[.int .i64 0] 3)) := (Below.refl _ _).alloc (Nat.le_refl _) _
        have hz2 : (w1.alloc (.cells #[.int .i64 0] 3)).heap.size = c15 + 1 := by rw [World.size_alloc, hc15]
        obtain ⟨w2, hw2⟩ : ∃ w2, w1.alloc (.cells #[.int .i64 0] 3) = w2 := ⟨_, rfl⟩
        rw [hw2] at hk15 hb2 hz2
        have HB12 := Lib.hid hb2
        have HC15 : Hid (w1.heap.size = c15) := hc15
        rw [hc15, hw2]
        have hu2 := HU1.out.after hb2
        have hcap2 : CapS w2 B g l := HCAP.out.keep (KeepB.of_below hb2 (by simp; exact HBG.out))
        have hbg2 : B < w2.heap.size ∧ g < w2.heap.size := ⟨Nat.lt_of_lt_of_le HBG.out.1 hb2.size, Nat.lt_of_lt_of_le HBG.out.2 hb2.size⟩
        have hst := each_stops 8 (by decide) B g l (by rw [HLEN.out]; omega) HSZ.out w2 hcap2 hbg2
        rw [HT2.out] at hst
        have hb4 : b + 4 ≤ B ∧ b + 4 ≤ g ∧ b + 4 ≤ c15 := by have := HGE.out; have := HSR.out; have := HBG.out; omega
        have HB4 := Lib.hid hb4
        have hbc : B < c15 ∧ g < c15 := by rw [← hc15]; exact HBG.out
        have HBC := Lib.hid hbc
        have htl : T.length ≤ 1400 := by
          have h1 := toldE_len l 0
          rw [HT2.out] at h1
          have := HLEN.out
          omega
        clear hw2 hc15 hb2 hcap2 HCAP HU1 HT2 heq
        have hne0 : ∀ x, Boxed w2 (b + 1 + 1 + 1) 25 x → x.ownBlock ≠ some c15 := fun x hx e => by
          have := HPB.out x (boxed_back hx (HB12.out.block _ (by have := HSZ1.out; omega))) c15 e
          have := HC15.out
          omega
        refine Code.wp_mono (Q := fun e a' W => (e = .normal ∨ e = .exit 4) ∧ ∃ (D n : Nat), c15 < D ∧ W.heap[D]? = some (.deferred (some [])) ∧ IS w b most T c15 n W ∧ n ≤ T.length ∧ (n = T.length ∨ (n : Int) = most) ∧ a' = { tmps := #[Value.slice oa i cap, Value.int IntKind.i64 most, undef, Value.pointer (some { block := b, off := 0 }), Value.pointer (some { block := b + 1, off := 0 }), Value.pointer (some { block := b + 1 + 1, off := 0 }), Value.pointer (some { block := b + 1 + 1 + 1, off := 0 }), Value.bool wh, Value.int IntKind.i64 ↑i, u9, u10, u11, u12, u13, Value.func (Fn.func 20) #[] #[Value.pointer (some { block := B, off := 0 })], Value.pointer (some { block := c15, off := 0 }), undef, undef, Value.slice oa i cap, Value.int IntKind.i64 ↑i, Value.bool false, undef, Value.int IntKind.i64 ↑i, Value.slice oa i cap, Value.int IntKind.i64 ↑i, Value.bool false, u26, u27, u28, u29, u30, u31, u32, u33, u34, u35, u36, u37, u38, u39, u40, u41, u42, u43, u44, u45, u46, u47, u48, u49, u50, u51, u52, u53, u54, u55, u56, u57, u58, u59, u60, u61, u62, u63, u64, u65, u66, u67, u68, u69, u70, u71, u72, u73, u74, u75, u76, u77, u78, u79, u80, u81, u82, u83, u84, u85, u86, Value.slice oa i cap, Value.func (Fn.func 20) #[] #[Value.pointer (some { block := B, off := 0 })], Value.func (Fn.func 20) #[] #[Value.pointer (some { block := B, off := 0 })], Value.bool false, Value.func (Fn.func 20) #[] #[Value.pointer (some { block := B, off := 0 })], undef, undef, undef, undef, undef, undef, undef, undef, undef, undef, undef, undef, undef, undef, undef, undef, undef, undef, undef, undef, undef, undef, undef, undef, undef, undef, undef, undef, undef, undef, undef, undef, undef, undef, undef, undef, undef, undef, undef, undef, undef, undef, undef, undef, undef], defers := [{ target := .collected D, args := #[] }] }) ?tail
          (wpIn_wide.1 (wpIn_rangeFunc_ownH (F := Fence.wide) (n := 9) rfl (by decide) (gf := 20) (lb := #[.pointer (some ⟨B, 0, none⟩)]) rfl trivial each_enters hst KpE.trans (KpE.mark (by simp; exact hbg2)) (Below.refl _ _) (fun _ => rfl)
          (fun pre W => IS w b most T c15 pre.length W ∧ pre = T.take pre.length)
          (fun c pre W => (c = .exit 4 ∧ ∃ ys x, pre = ys ++ [x] ∧ (ys.length : Int) = most ∧ ys.length ≤ T.length ∧ IS w b most T c15 ys.length W) ∨ (c = .ret ∧ ¬ ∃ k, pre = T.take k))
          ?hI ?hIx ⟨⟨hu2, hk15, hne0⟩, rfl⟩
          (fun x a' W => ∃ g', a' = { tmps := #[Value.slice oa i cap, Value.int IntKind.i64 most, undef, Value.pointer (some { block := b, off := 0 }), Value.pointer (some { block := b + 1, off := 0 }), Value.pointer (some { block := b + 1 + 1, off := 0 }), Value.pointer (some { block := b + 1 + 1 + 1, off := 0 }), Value.bool wh, Value.int IntKind.i64 ↑i, u9, u10, u11, u12, u13, Value.func (Fn.func 20) #[] #[Value.pointer (some { block := B, off := 0 })], Value.pointer (some { block := c15, off := 0 }), Value.int IntKind.i64 ↑x.1, Value.pointer (some { block := g', off := 0 }), Value.slice oa i cap, Value.int IntKind.i64 ↑i, Value.bool false, undef, Value.int IntKind.i64 ↑i, Value.slice oa i cap, Value.int IntKind.i64 ↑i, Value.bool false, u26, u27, u28, u29, u30, u31, u32, u33, u34, u35, u36, u37, u38, u39, u40, u41, u42, u43, u44, u45, u46, u47, u48, u49, u50, u51, u52, u53, u54, u55, u56, u57, u58, u59, u60, u61, u62, u63, u64, u65, u66, u67, u68, u69, u70, u71, u72, u73, u74, u75, u76, u77, u78, u79, u80, u81, u82, u83, u84, u85, u86, Value.slice oa i cap, Value.func (Fn.func 20) #[] #[Value.pointer (some { block := B, off := 0 })], Value.func (Fn.func 20) #[] #[Value.pointer (some { block := B, off := 0 })], Value.bool false, Value.func (Fn.func 20) #[] #[Value.pointer (some { block := B, off := 0 })], Value.int IntKind.i64 ↑x.1, Value.agg (ra x.2.k x.2.a x.2.b), undef, undef, undef, undef, undef, undef, undef, undef, undef, undef, undef, undef, undef, undef, undef, undef, undef, undef, undef, undef, undef, undef, undef, undef, undef, undef, undef, undef, undef, undef, undef, undef, undef, undef, undef, undef, undef, undef, undef, undef, undef, undef, undef], defers := [] } ∧ Blk W g' (ra x.2.k x.2.a x.2.b) 32) ?hAx ?assign ?body ?done ?stop))
        case hI =>
          intro pre X Y row h hg hr
          rw [hz2] at hr
          exact ⟨h.1.kept hg (B0 := c15 + 1) (by have := HB4.out; omega) hr, h.2⟩
        case hIx =>
          rintro c pre X Y row h hg hr
          rw [hz2] at hr
          rcases h with ⟨hc, ys, x, h1, h2, h3, h4⟩ | h
          · exact .inl ⟨hc, ys, x, h1, h2, h3, h4.kept hg (B0 := c15 + 1) (by have := HB4.out; omega) hr⟩
          · exact .inr h
        case hAx =>
          rintro x a' _ X Y row ⟨g', h1, h2⟩ hg hr
          exact ⟨g', h1, blk_kept h2 hg (fun r e => (hr r e).2)⟩
        case assign =>
          rintro l' pre x W K ⟨hS, hP⟩ hKK
          have HS := Lib.hid hS
          have HP := Lib.hid hP
          clear hS hP
          unfold encE
          gi_wp2_with (refine wpListIn_store_rowX rfl 32 (.tmp 17) (.tmp 93) rfl W.heap.size (ra x.2.k x.2.a x.2.b) rfl rfl 32 (ra 0 0 0) (Blk.new W (ra 0 0 0) 32) size_rec rfl (ra_one _ _ _) ?_)
          have hb' : Below W.heap.size W ((W.alloc (.cells (ra 0 0 0) 32)).setRow W.heap.size (ra x.2.k x.2.a x.2.b)) := below_put (Nat.le_refl _) _ ((Below.refl _ _).alloc (Nat.le_refl _) _)
          have hlt := HS.out.k.lt
          exact hKK _ _ (keeps_of_below _ hb') (KpE.of_below hb' (by have := HBC.out; simp; omega)) ⟨HS.out.after hb', HP.out⟩ ⟨W.heap.size, rfl, (Blk.new W (ra 0 0 0) 32).put _⟩
        case body =>
          rintro l' pre x a' W _ _ ⟨hS, hP⟩ ⟨g', rfl, hblk⟩ hlen
          obtain ⟨nn, hnn⟩ : ∃ nn, pre.length = nn := ⟨_, rfl⟩
          have c15c := hS.k.cell 0
          have cm := hS.un.m.cell 0
          have f15 := hS.k.free 0
          have cr := hS.un.r.cell 0
          have fr := hS.un.r.free 0
          rw [hnn] at hlen hP c15c
          have HS := Lib.hid hS
          have HP := Lib.hid hP
          have HNN := Lib.hid hnn
          clear hS hP
          by_cases hmo : (nn : Int) = most
          · have HMO := Lib.hid hmo
            have hmb : ((nn : Int) == most) = true := by simpa using hmo
            clear hmo
            gi_wp2_with fail
            exact ⟨KeepsFrom.refl _ _, .inl ⟨rfl, pre, x, rfl, by rw [HNN.out]; exact HMO.out, by rw [HNN.out]; omega, HS.out⟩⟩
          · have hmb : ((nn : Int) == most) = false := by simpa using hmo
            obtain ⟨uw, hbw, how, _⟩ := HS.out.un.want
            obtain ⟨up, hbp, hop, _⟩ := HS.out.un.places
            obtain ⟨L, hL⟩ : ∃ L, T.length = L := ⟨_, rfl⟩
            have HL := Lib.hid hL
            rw [hL] at hlen how hop
            obtain ⟨L', rfl⟩ : ∃ L', L = L' + 1 := ⟨L - 1, by omega⟩
            obtain ⟨gw, cw, rfl⟩ := ownsRow_succ how
            obtain ⟨gp, cp, rfl⟩ := ownsRow_succ hop
            have cb5 := hbw.cell
            have cb6 := hbp.cell
            have hTn : nn < T.length := by omega
            have hnb : nn ≤ 1400 := by omega
            obtain ⟨y, hy⟩ : ∃ y, T[nn]? = some y := ⟨_, List.getElem?_eq_getElem hTn⟩
            have hrow : ∀ t v, (y.2.cells)[t]? = some v → W.cell? ⟨gw, nn * 3 + t, none⟩ = some v := fun t v hv => by
              have ht3 : t < 3 := (List.getElem?_eq_some_iff.1 hv).1
              have h5 := flatX_get (T.map (·.2)) nn t (by rw [List.length_map]; exact hTn) ht3
              rw [List.getElem_map, show T[nn] = y from Option.some.inj ((List.getElem?_eq_getElem hTn).symm.trans hy)] at h5
              exact cell_of_rowX how rfl (nn * 3 + t) v (h5.trans hv)
            have w0 : W.cell? ⟨gw, nn * 3, none⟩ = some (.int .i64 y.2.k) := hrow 0 _ rfl
            have w1' : W.cell? ⟨gw, nn * 3 + 1, none⟩ = some (.int .i64 y.2.a) := hrow 1 _ rfl
            have w2' : W.cell? ⟨gw, nn * 3 + 2, none⟩ = some (.int .i64 y.2.b) := hrow 2 _ rfl
            have p0 : W.cell? ⟨gp, nn, none⟩ = some (.int .i64 y.1) := cell_of_rowX hop rfl nn _ (by unfold plsV; rw [List.getElem?_map, hy]; rfl)
            have r0 : W.cell? ⟨g', 0, none⟩ = some (.int .i64 x.2.k) := hblk.cell 0
            have r1 : W.cell? ⟨g', 1, none⟩ = some (.int .i64 x.2.a) := hblk.cell 1
            have r2 : W.cell? ⟨g', 2, none⟩ = some (.int .i64 x.2.b) := hblk.cell 2
            have HY := Lib.hid hy
            have HTN := Lib.hid hTn
            have hnlt : (nn : Int) < (L' : Int) + 1 := by omega
            have hneq : ∀ w, Sem.run Tryd.prog (binOp .neq 32 (.agg #[.int .i64 x.2.k, .int .i64 x.2.a, .int .i64 x.2.b]) (.agg #[.int .i64 y.2.k, .int .i64 y.2.a, .int .i64 y.2.b])) w = .ok (.bool (!sameR x.2.k x.2.a x.2.b y.2.k y.2.a y.2.b)) w := fun w => ne_recX _ _ _ _ _ _ w
            clear hbw hbp how hop hrow hy hTn hblk hL
            have hge : decide (((L' : Int) + 1) ≤ (nn : Int)) = false := decide_eq_false (by omega)
            have hge2 : ¬ ((L' : Int) + 1) ≤ (nn : Int) := by omega
            obtain ⟨sm, hsm⟩ : ∃ sm, sameR x.2.k x.2.a x.2.b y.2.k y.2.a y.2.b = sm := ⟨_, rfl⟩
            rw [hsm] at hneq
            have HSM := Lib.hid hsm
            clear hsm
            cases sm
            · gi_wp2_with fail
              refine quiet_round rfl (by kernel_rfl) (by kernel_rfl) (by kernel_rfl) ?_
              repeat (gi_big_quiet_step (fail))
              refine wpQuietIn_nil ?_
              intro _ hw'
              obtain ⟨nq, hw''⟩ := hw'
              subst hw''
              gi_wp2_with fail
              refine ⟨(keeps_drewX _ _ nq).trans (keeps_set _ _ _), .inr ⟨rfl, ?_⟩⟩
              rintro ⟨k, hk⟩
              have hxy := mism hk (by rw [HNN.out]; exact HY.out)
              have h2 := HSM.out
              rw [hxy, sameR_self] at h2
              cases h2
            · obtain ⟨q1, q2, q3⟩ := (sameR_iff _ _ _ _ _ _).1 HSM.out
              have HX2 : Hid (x.2 = y.2) := by
                obtain ⟨x1, xk, xa, xb⟩ := x
                obtain ⟨y1, yk, ya, yb⟩ := y
                simp at q1 q2 q3
                subst q1 q2 q3
                rfl
              clear q1 q2 q3 HSM
              by_cases hxe : x.1 = y.1
              · have hxb : ((x.1 : Int) != (y.1 : Int)) = false := by rw [hxe]; simp
                have HXY : Hid (x = y) := Prod.ext hxe HX2.out
                clear hxe
                gi_wp2_with fail
                refine quiet_round rfl (by kernel_rfl) (by kernel_rfl) (by kernel_rfl) ?_
                repeat (gi_big_quiet_step (fail))
                refine wpQuietIn_nil ?_
                intro _ hw'
                obtain ⟨nq, hw''⟩ := hw'
                subst hw''
                have HN2 : Hid (IS w b most T c15 (nn + 1) ((W.drewN nq).setCell ⟨c15, 0, none⟩ (.int .i64 ((nn : Int) + 1)))) := by
                  have h1 := HS.out
                  rw [HNN.out] at h1
                  exact IS.next (h1.drewN nq) HB4.out.2.2
                have HKP : Hid (KpE [B, g] w2.heap.size W ((W.drewN nq).setCell ⟨c15, 0, none⟩ (.int .i64 ((nn : Int) + 1)))) :=
                  (KpE.drewN _ _ W nq).trans (KpE.set 0 _ (by rw [hz2]; omega) (by have := HBC.out; simp; omega))
                have HP2 : Hid (pre ++ [x] = T.take (nn + 1)) := by
                  show _ = _
                  rw [List.take_add_one, HY.out, ← HP.out, HXY.out]; rfl
                gi_wp2_with fail
                refine ⟨(keeps_drewX _ _ nq).trans (keeps_set _ _ _), HKP.out, ?_, ?_⟩
                · rw [List.length_append, HNN.out]; exact HN2.out
                · rw [List.length_append, HNN.out]; exact HP2.out
              · have hxb : ((x.1 : Int) != (y.1 : Int)) = true := by simp; omega
                gi_wp2_with fail
                refine quiet_round rfl (by kernel_rfl) (by kernel_rfl) (by kernel_rfl) ?_
                repeat (gi_big_quiet_step (fail))
                refine wpQuietIn_nil ?_
                intro _ hw'
                obtain ⟨nq, hw''⟩ := hw'
                subst hw''
                gi_wp2_with fail
                refine ⟨(keeps_drewX _ _ nq).trans (keeps_set _ _ _), .inr ⟨rfl, ?_⟩⟩
                rintro ⟨k, hk⟩
                exact hxe (congrArg Prod.fst (mism hk (by rw [HNN.out]; exact HY.out)))
        case done =>
          rintro D xs W hD hS ⟨hI, _⟩ hdef
          have hxl : xs.length = T.length := congrArg List.length hS
          rw [hxl] at hI
          exact ⟨.inl rfl, D, T.length, by rw [hz2] at hD; omega, hdef, hI, Nat.le_refl _, .inl rfl, rfl⟩
        case stop =>
          rintro D c pre W hD ⟨k, hk, hpre⟩ h hdef
          rcases h with ⟨rfl, ys, x, h1, h2, h3, h4⟩ | ⟨_, h⟩
          · refine wpIn_exit ?_
            exact ⟨.inr rfl, D, ys.length, by rw [hz2] at hD; omega, hdef, h4, h3, .inr h2, rfl⟩
          · exact absurd ⟨k, hpre⟩ h
        case tail =>
          rintro e a' W ⟨he, D, n, hD, hdef, hI, hn, hnm, rfl⟩
          refine in_block4 he ?_
          obtain ⟨uw, hbw, how, _⟩ := hI.un.want
          obtain ⟨ad, cw, hu⟩ : ∃ ad cw, uw = .slice ad T.length cw := by
            rcases how.2 with ⟨h, h0⟩ | ⟨g, cap, cur, h, _⟩
            · exact ⟨none, 0, by rw [h, h0]⟩
            · exact ⟨_, cap, h⟩
          subst hu
          have c5 := hbw.cell
          have c15c := hI.k.cell 0
          have cm := hI.un.m.cell 0
          have HI := Lib.hid hI
          have HDEF := Lib.hid hdef
          have HD := Lib.hid hD
          obtain ⟨L, hL⟩ : ∃ L, T.length = L := ⟨_, rfl⟩
          rw [hL] at c5 hn hnm
          clear hbw how hI hdef hD hst hu2 hk15 hbg2
          have HTW : ∀ w3, Below W.heap.size W w3 → Blk w3 (b + 1) #[.bool false] 4 ∧ w3.heap[D]? = some (.deferred (some [])) ∧ Below w.heap.size w w3 := fun w3 h3 =>
            ⟨HI.out.un.r.after h3, (h3.block D (Array.getElem?_eq_some_iff.1 HDEF.out).1).trans HDEF.out, HI.out.un.below.trans (h3.mono HI.out.un.below.size)⟩
          have HTW2 := Lib.hid HTW
          clear HTW
          by_cases hnl : n = L
          · subst hnl
            go_wp2_with fail
            refine (sh_works _).mono ?_
            rintro e w3 ⟨rfl, hb3⟩
            obtain ⟨kr, hd3, hbl3⟩ := HTW2.out w3 hb3
            have cr := kr.cell 0
            have fr := kr.free 0
            have KR := Lib.hid kr
            have HD3 := Lib.hid hd3
            have HBL3 := Lib.hid hbl3
            clear kr hd3 hbl3 hb3 HTW2
            go_wp2_with fail
            have hd4 : (w3.setCell ⟨b + 1, 0, none⟩ (.bool true)).heap[D]? = some (.deferred (some [])) := (Below.heap_setCell _ _ _ _ (by show D ≠ b + 1; have := HD.out; have := HB4.out; omega)).trans HD3.out
            exact leave_one rfl hd4 (results_cell_oneX rfl _ _ (b + 1) (.bool true) rfl ((blk_mark (KR.out.set 0 _ rfl) hd4).cell 0) Tryd.isAgg4)
              ⟨rfl, below_mark (HBL3.out.setCell (p := ⟨b + 1, 0, none⟩) (by show _ ≤ b + 1; have := HB.out; omega) _) (by have := HD.out; have := HB4.out; have := HB.out; omega) hd4⟩
          · have hnb : ((n : Int) == (L : Int)) = false := by simp; omega
            have hmo : ((n : Int) == most) = true := by simp; omega
            go_wp2_with fail
            refine (sh_works _).mono ?_
            rintro e w3 ⟨rfl, hb3⟩
            obtain ⟨kr, hd3, hbl3⟩ := HTW2.out w3 hb3
            have cr := kr.cell 0
            have fr := kr.free 0
            have KR := Lib.hid kr
            have HD3 := Lib.hid hd3
            have HBL3 := Lib.hid hbl3
            clear kr hd3 hbl3 hb3 HTW2
            go_wp2_with fail
            have hd4 : (w3.setCell ⟨b + 1, 0, none⟩ (.bool true)).heap[D]? = some (.deferred (some [])) := (Below.heap_setCell _ _ _ _ (by show D ≠ b + 1; have := HD.out; have := HB4.out; omega)).trans HD3.out
            exact leave_one rfl hd4 (results_cell_oneX rfl _ _ (b + 1) (.bool true) rfl ((blk_mark (KR.out.set 0 _ rfl) hd4).cell 0) Tryd.isAgg4)
              ⟨rfl, below_mark (HBL3.out.setCell (p := ⟨b + 1, 0, none⟩) (by show _ ≤ b + 1; have := HB.out; omega) _) (by have := HD.out; have := HB4.out; have := HB.out; omega) hd4⟩

end Go.Proofs.YtklbmlnghindjaaDoor
