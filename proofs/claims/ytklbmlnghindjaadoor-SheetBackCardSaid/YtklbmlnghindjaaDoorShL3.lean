/- Layer 12: SheetBack's walk: records that are packed are unpacked. -/
import Derived.Test.YtklbmlnghindjaaDoorShL2
namespace Go.Proofs.YtklbmlnghindjaaDoor
set_option maxRecDepth 100000
open Go.RowKit

theorem pageX_bs (n : Nat) (l : List Rc) : bs (pageX n l) = accL l.length l ++ List.replicate (n - (1 + 9 * l.length)) 0 := rfl
theorem accL_split (k : Nat) (xs : List Rc) (i : Nat) (h : i < xs.length) : accL k xs = accL k (xs.take i) ++ (bs xs[i].txt ++ (xs.drop (i + 1)).flatMap (fun x => bs x.txt)) := by
  unfold accL
  rw [List.cons_append]
  congr 1
  conv => lhs; rw [← List.take_append_drop i xs, List.drop_eq_getElem_cons h]
  rw [List.flatMap_append, List.flatMap_cons]
theorem sec_page (n : Nat) (xs : List Rc) (i : Nat) (h : i < xs.length) : secT (pageX n xs) i = xs[i].txt := by
  apply bytes_eq
  show bs (secT (pageX n xs) i) = bs xs[i].txt
  have hl : (accL xs.length (xs.take i)).length = 1 + 9 * i := by rw [accL_len, List.length_take]; omega
  rw [sec_bytes, pageX_bs, accL_split _ xs i h, List.append_assoc, List.append_assoc, List.drop_append, List.drop_eq_nil_of_le (by omega), hl, Nat.sub_self, List.drop_zero, List.nil_append, List.take_append, txt_len, Nat.sub_self, List.take_zero, List.append_nil, List.take_of_length_le (by rw [txt_len]; exact Nat.le_refl _)]
theorem page_head (n : Nat) (xs : List Rc) (h : xs.length < 256) : byteT (pageX n xs) 0 = xs.length := by
  unfold byteT
  have e : (pageX n xs).data.toList = accL xs.length xs ++ List.replicate (n - (1 + 9 * xs.length)) 0 := pageX_bs n xs
  rw [e]
  unfold accL
  rw [List.cons_append, List.getD_cons_zero, UInt8.toNat_ofNat']
  have : xs.length % 2 ^ 8 = xs.length := Nat.mod_eq_of_lt h
  omega
theorem page_rest (n : Nat) (xs : List Rc) (i : Nat) (h : 1 + 9 * xs.length ≤ i) : byteT (pageX n xs) i = 0 := by
  unfold byteT
  have e : (pageX n xs).data.toList = accL xs.length xs ++ List.replicate (n - (1 + 9 * xs.length)) 0 := pageX_bs n xs
  rw [e, List.getD_eq_getElem?_getD, List.getElem?_append_right (by rw [accL_len]; exact h)]
  rw [List.getElem?_replicate]
  split <;> rfl
theorem rc_back (x : Rc) (h : MayX x) : (⟨kR x.txt, aR x.txt, bR x.txt⟩ : Rc) = x := by
  obtain ⟨k, a, b⟩ := x
  rw [may_mk] at h
  rw [txt_mk]
  obtain ⟨e1, e2, e3⟩ := rec_fields h
  rw [e1, e2, e3]
theorem rc_ok (x : Rc) (h : MayX x) : OkR x.txt := by
  obtain ⟨k, a, b⟩ := x
  rw [may_mk] at h
  rw [txt_mk]
  exact rec_ok h
theorem page_recs (n : Nat) (xs : List Rc) (hn : 16 ≤ (n : Int) ∧ (n : Int) ≤ 256) (h1 : 1 ≤ xs.length) (h2 : xs.length ≤ holdN n) (hm : ∀ x ∈ xs, MayX x) : PageOk (pageX n xs) ∧ recsT (pageX n xs) = xs := by
  have hp := holdN_pos hn
  have h28 := holdN_le n
  have hsz := pageX_size n xs (by omega)
  have hh := page_head n xs (by omega)
  refine ⟨⟨by rw [hsz]; exact hn, by rw [hh, hsz]; omega, fun i hi => ?_, fun i hi _ => page_rest n xs i (by rw [hh] at hi; omega)⟩, ?_⟩
  · rw [hh] at hi
    have hi2 : i < xs.length := by omega
    rw [sec_page n xs i hi2]
    exact rc_ok _ (hm _ (List.getElem_mem hi2))
  · apply List.ext_getElem
    · rw [recsT_len, hh]; omega
    · intro i g1 g2
      rw [recsT_get]
      unfold recAt
      rw [sec_page n xs i g2]
      exact rc_back _ (hm _ (List.getElem_mem g2))
/-- is one of the first i ones none? -/
def wB (l : List Rc) (i : Nat) : Bool := !((l.take i).all fun x => decide (MayX x))
theorem wB_zero (l : List Rc) : wB l 0 = false := rfl
theorem wB_succ (l : List Rc) (i : Nat) (h : i < l.length) : wB l (i + 1) = (wB l i || !decide (MayX l[i])) := by
  unfold wB
  rw [flat_take l i h, List.all_append]
  simp [Bool.not_and]
theorem wB_all (l : List Rc) (h : ¬ ∀ x ∈ l, MayX x) : wB l l.length = true := by
  unfold wB
  rw [List.take_of_length_le (Nat.le_refl _), Bool.not_eq_true', ← Bool.not_eq_true, List.all_eq_true]
  intro ha
  exact h fun x hx => of_decide_eq_true (ha x hx)
theorem take_part (l : List Rc) (m i : Nat) : l.take ((i + 1) * m) = l.take (i * m) ++ partX m l i := by
  unfold partX
  rw [Nat.add_mul, Nat.one_mul, List.take_add]
theorem flatX_app2 (l l' : List Rc) : flatX (l ++ l') = flatX l ++ flatX l' := by unfold flatX; rw [List.flatMap_append]
theorem flatX_one : ∀ (l : List Rc) (u : Value), u ∈ flatX l → u.oneCell' = true := by
  intro l u hu
  unfold flatX at hu
  rw [List.mem_flatMap] at hu
  obtain ⟨x, _, h⟩ := hu
  simp [Rc.cells] at h
  rcases h with rfl | rfl | rfl <;> rfl
theorem pagesN_le {m : Nat} {l : List Rc} (hm : 0 < m) : l.length ≤ pagesN m l * m := by
  unfold pagesN
  have h := Nat.div_add_mod (l.length + m - 1) m
  have h2 := Nat.mod_lt (l.length + m - 1) hm
  rw [Nat.mul_comm] at h
  omega

theorem wrapX {x : Int} (h : -9223372036854775808 ≤ x ∧ x ≤ 9223372036854775807) : wrap64 x = x := by unfold wrap64; omega
theorem pagesX_get (n m : Nat) (l : List Rc) (i : Nat) (h : i < (pagesX n m l).length) : (pagesX n m l)[i] = pageX n (partX m l i) := by simp [pagesX]

set_option maxHeartbeats 4000000 in
theorem walk_SheetBack (oa : Option Addr) (cap : Nat) (l : List Rc) (n : Int) (hlc : l.length ≤ cap ∧ cap ≤ maxLen) (_ : (Lit.int .i64 n).wf = true) (w : World) (ha : XsAt w oa l) :
    Calls Tryd.prog 4 #[.slice oa l.length cap, .int .i64 n] w fun e w' => e = .returned (.bool true) ∧ Below w.heap.size w w' := by
  have hcap := hlc.1
  have hml : l.length ≤ maxLen := Nat.le_trans hlc.1 hlc.2
  have HA := Lib.hid ha
  obtain ⟨len, hlen⟩ : ∃ len, l.length = len := ⟨_, rfl⟩
  have HLEN := Lib.hid hlen
  have HCAP := Lib.hid hcap
  rw [hlen] at hml ⊢
  have hml2 : (len : Int) ≤ 9223372036854775807 := by unfold maxLen at hml; omega
  clear ha hlen hcap hml hlc
  go_enter Tryd.func4, Tryd.ntmps4
  go_wp2_with fail
  refine (sh_works _).mono ?_
  rintro e w1 ⟨rfl, hb1⟩
  have HB1 := Lib.hid hb1
  clear hb1
  by_cases hbig : 200 < len
  · have hbi : (200 : Int) < (len : Int) := by omega
    go_wp2_with fail
    go_ret
    exact ⟨rfl, HB1.out⟩
  · have hbi : ¬ (200 : Int) < (len : Int) := by omega
    have hbd : decide ((200 : Int) < (len : Int)) = false := decide_eq_false hbi
    have hl200 : len ≤ 200 := by omega
    clear hbig
    go_wp2_with fail
    have hpk := sh_pack oa cap l (by rw [HLEN.out]; omega) HCAP.out n w1 (HA.out.below HB1.out)
    rw [HLEN.out] at hpk
    refine hpk.mono ?_
    rintro e w2 ⟨p1, p2, p3, hb2⟩
    have HB2 := Lib.hid (HB1.out.trans (hb2.mono HB1.out.size))
    clear hpk HB1
    have hhold := sh_hold n w2
    by_cases hok : holdN n ≠ 0 ∧ ∀ x ∈ l, MayX x
    · obtain ⟨v, rfl, hown⟩ := p2 hok.1 hok.2
      obtain ⟨m, hm⟩ : ∃ m, holdN n = m := ⟨_, rfl⟩
      have hin : 16 ≤ n ∧ n ≤ 256 := by
        by_cases hx : 16 ≤ n ∧ n ≤ 256
        · exact hx
        · exact absurd (holdN_out hx) hok.1
      obtain ⟨N, hN⟩ : ∃ N : Nat, n = N := ⟨n.toNat, by omega⟩
      subst hN
      have h28 := holdN_le N
      have hp := holdN_pos hin
      rw [hm] at hown hhold h28 hp
      rw [Int.toNat_natCast] at hown
      have HH := Lib.hid hhold
      have HM := Lib.hid hm
      have HIN : Hid ((16 ≤ (N : Int) ∧ (N : Int) ≤ 256) ∧ 1 ≤ m ∧ m ≤ 28 ∧ 1 + 9 * m ≤ N) := ⟨hin, hp.1, h28, by omega⟩
      have HALL := Lib.hid hok.2
      obtain ⟨cnt, hcnt⟩ : ∃ cnt, pagesN m l = cnt := ⟨_, rfl⟩
      have hcl : cnt ≤ 300 := by rw [← hcnt]; unfold pagesN; have := Nat.div_le_self (l.length + m - 1) m; have := HLEN.out; omega
      have hPl : (pagesX N m l).length = cnt := by unfold pagesX; rw [List.length_map, List.length_range, hcnt]
      rw [hcnt] at hown
      have hts := TsAt.own hPl.symm hown
      have hdv : ((len : Int) + (m : Int) - 1) / (m : Int) = (cnt : Int) := by
        have h1 := hp.1
        have e : (len : Int) + (m : Int) - 1 = ((len + m - 1 : Nat) : Int) := by omega
        rw [← hcnt, e]; unfold pagesN; rw [HLEN.out]
        exact (Int.natCast_ediv _ _).symm
      obtain ⟨a, cp, rfl, hts2⟩ := hts
      rw [hPl]
      have HTS := Lib.hid hts2
      have HPL := Lib.hid hPl
      have HCNT := Lib.hid hcnt
      have hm1 : ¬ (m : Int) < 1 := by omega
      have hm3 : ¬ (m : Int) = 0 := by omega
      have hdw : wrap64 ((wrap64 (wrap64 ((len : Int) + (m : Int)) - 1)).tdiv (m : Int)) = (cnt : Int) := by
        rw [wrapX (x := (len : Int) + (m : Int)) (by omega), wrapX (x := (len : Int) + (m : Int) - 1) (by omega), Int.tdiv_eq_ediv_of_nonneg (by omega), hdv, wrapX (by omega)]
      clear p1 p2 p3 hb2 hok hm hhold hown hin h28 hp hts2 hPl hcnt
      go_wp2_with fail
      refine HH.out.mono ?_
      rintro e w3 ⟨rfl, rfl⟩
      clear HH
      go_wp2_with fail
      go_loopw [11, 77] (fun av iv wr => ∃ i : Nat, i ≤ cnt ∧ iv = .int .i64 i ∧ Hid (wr.ownsRow w2.heap.size 32 3 av (l.take (i * m)).length (flatX (l.take (i * m)))) ∧ Hid (Below w2.heap.size w2 wr)) (fun _ iv _ => cnt - (intOf iv).toNat)
      case atStart => exact ⟨0, Nat.zero_le _, rfl, by rw [Nat.zero_mul]; exact ⟨rfl, Or.inl ⟨rfl, rfl⟩⟩, Below.refl _ _⟩
      case round =>
        obtain ⟨i, hi, rfl, HOW, HBL⟩ := hrel
        by_cases hlt : i < cnt
        · have hltz : (i : Int) < (cnt : Int) := by omega
          have him : i * m < len := by
            have h := (pieces_lt (h := m) (len := len) (p := i) (by omega)).1 (by rw [← HLEN.out]; rw [← HCNT.out] at hlt; exact hlt)
            exact h
          obtain ⟨g, o, rfl, hc0⟩ := HTS.out i (by rw [HPL.out]; exact hlt)
          rw [pagesX_get] at hc0
          obtain ⟨xs, hxs⟩ : ∃ xs, partX m l i = xs := ⟨_, rfl⟩
          have hxl := partX_len m l i
          rw [hxs, HLEN.out] at hxl
          have hmy : ∀ y ∈ xs, MayX y := by rw [← hxs]; exact partX_sub HALL.out
          have htk := take_part l m i
          rw [hxs] at htk hc0
          obtain ⟨k, hk⟩ : ∃ k, xs.length = k := ⟨_, rfl⟩
          have hk1 : 1 ≤ k ∧ k ≤ m := by omega
          obtain ⟨hpo, hpr⟩ := page_recs N xs HIN.out.1 (by omega) (by rw [HM.out]; omega) hmy
          have hps := pageX_size N xs (by have := HIN.out; omega)
          obtain ⟨pg, hpg⟩ : ∃ pg, pageX N xs = pg := ⟨_, rfl⟩
          rw [hpg] at hpo hpr hps hc0
          have hcw := (HBL.out.cell (p := ⟨g, o + i, none⟩) (cell_lt hc0)).trans hc0
          have hup := sh_unpack pg (by rw [hps]; unfold maxLen; have := HIN.out.1; omega) wr
          have HUP := Lib.hid hup
          have HPO := Lib.hid hpo
          have HPR : Hid (recsT pg = xs ∧ xs.length = k) := ⟨hpr, hk⟩
          have HTK := Lib.hid htk
          have hsz : (pg.size : Int) = (N : Int) := by omega
          have hkm : ¬ (m : Int) < (k : Int) := by omega
          have hkd : decide ((m : Int) < (k : Int)) = false := decide_eq_false hkm
          have hT : (l.take (i * m)).length = i * m := by rw [List.length_take, HLEN.out]; omega
          have HT := Lib.hid hT
          have hTb : i * m ≤ 200 := by omega
          have HTB := Lib.hid hTb
          clear him hc0 hxs hxl hmy htk hk hpo hpr hps hpg hup hlt hT hTb
          go_wp2_with fail
          refine HUP.out.mono ?_
          rintro e w3 ⟨h1, _, hb3⟩
          obtain ⟨v, rfl, hown⟩ := h1 HPO.out
          rw [HPR.out.1, HPR.out.2] at hown
          obtain ⟨k', rfl⟩ : ∃ k', k = k' + 1 := ⟨k - 1, by omega⟩
          obtain ⟨g2, cp2, hv⟩ := ownsRow_succ hown
          have hcl2 := hown.cells (g := g2) (by rw [hv]; rfl)
          subst hv
          have how3 := ownsRow_afterX HOW.out hb3
          have hbl3 := HBL.out.trans (hb3.mono HBL.out.size)
          have HCL2 := Lib.hid hcl2
          have HOW3 := Lib.hid how3
          have HBL3 := Lib.hid hbl3
          obtain ⟨i0, hi0, hz0, hz1, hz2⟩ := info_partsX infoRec
          clear h1 hb3 hown hcl2 how3 hbl3 HOW HBL HUP HPO
          go_wp2_with (at_builtin; refine wpList_append_own _ rfl _ _ 24 rfl w2.heap.size 32 i0 (.agg (ra 0 0 0)) 3 24 Tryd.underlying24 hi0 hz0 hz1 hz2 rfl (by decide) _ _ _ rfl HOW3.out ⟨g2, 0, none⟩ (k' + 1) cp2 (flatX xs) rfl ?c1 ?c2 ?c3 ?c4 ?c5 ?c6 ?_)
          case c1 => rw [flatX_len, HPR.out.2]
          case c2 => exact HCL2.out
          case c3 => exact flatX_one xs
          case c4 => unfold maxLen; have := HT.out; have := HTB.out; have := HIN.out.2.2.1; omega
          case c5 => have := HT.out; have := HTB.out; have := HIN.out.2.2.1; omega
          case c6 => exact HBL3.out.size
          intro v' w4 hown1 hgrow1 _
          have HNL : Hid (Below w2.heap.size w2 w4) := HBL3.out.grown hgrow1 HBL3.out.size (fun r e => (HOW3.out.lt r e).1)
          have HNO : Hid (w4.ownsRow w2.heap.size 32 3 v' (l.take ((i + 1) * m)).length (flatX (l.take ((i + 1) * m)))) := by
            show World.ownsRow _ _ _ _ _ _ _
            rw [HTK.out, List.length_append, flatX_app2, HPR.out.2, List.length_take]; exact hown1
          clear hown1 hgrow1 HBL3 HOW3 HCL2 hi0 hz0 hz1 hz2 HTK
          go_wp2_with fail
          go_roundw
          case rel => exact ⟨i + 1, by omega, by go_num, HNO, HNL⟩
          case measure => simp [intOf]; omega
        · obtain rfl : i = cnt := by omega
          have hltz : ¬ (i : Int) < (i : Int) := by omega
          have hall : l.take (i * m) = l := List.take_of_length_le (by rw [← HCNT.out]; exact pagesN_le (by omega))
          have how := HOW.out
          rw [hall] at how
          have hra := RsAt.own rfl how
          have hbw : Below w.heap.size w wr := HB2.out.trans (HBL.out.mono HB2.out.size)
          have hrl : RsAt wr (.slice oa len cap) l := ⟨oa, cap, by rw [HLEN.out], HA.out.below hbw⟩
          have HBK := Lib.hid (book_recs wr _ (.slice oa len cap) l (by rw [HLEN.out]; omega) hra hrl)
          have HBW := Lib.hid hbw
          clear hall how hra hbw hrl HOW HBL hlt
          go_wp2_with fail
          refine HBK.out.mono ?_
          rintro e w4 ⟨rfl, hb4⟩
          have HB4 := Lib.hid (HBW.out.trans (hb4.mono HBW.out.size))
          clear hb4 HBK
          go_wp2_with fail
          go_ret
          exact ⟨rfl, HB4.out⟩
    · obtain ⟨m, hm⟩ : ∃ m, holdN n = m := ⟨_, rfl⟩
      obtain ⟨ec, he, hec, hcase⟩ : ∃ ec : Int, e = .returned (.tuple #[.slice none 0 0, .int .i64 ec]) ∧ ec ≠ 0 ∧ ((m = 0 ∧ ec = 2) ∨ (m ≠ 0 ∧ ec = 110 ∧ wB l len = true)) := by
        by_cases hz : holdN n = 0
        · exact ⟨2, p1 hz, by decide, .inl ⟨by omega, rfl⟩⟩
        · have hno : ¬ ∀ x ∈ l, MayX x := fun h => hok ⟨hz, h⟩
          exact ⟨110, p3 hz hno, by decide, .inr ⟨by omega, rfl, by rw [← HLEN.out]; exact wB_all l hno⟩⟩
      subst he
      rw [hm] at hhold
      have HH := Lib.hid hhold
      have HCASE := Lib.hid hcase
      have hecb : (ec == 0) = false := by simpa using hec
      have hecn : (ec != 0) = true := by simp [bne, hecb]
      clear p1 p2 p3 hb2 hok hm hcase hhold
      go_wp2_with fail
      refine HH.out.mono ?_
      rintro e w3 ⟨rfl, rfl⟩
      clear HH
      go_wp2_with fail
      go_loopw [8, 33] (fun bv iv wr => ∃ i : Nat, i ≤ len ∧ iv = .int .i64 i ∧ bv = .bool (wB l i) ∧ Hid (Below w.heap.size w wr)) (fun _ iv _ => len - (intOf iv).toNat)
      case atStart => exact ⟨0, Nat.zero_le _, rfl, rfl, HB2.out⟩
      case round =>
        obtain ⟨i, hi, rfl, rfl, HBL⟩ := hrel
        by_cases hlt : i < len
        · have hltz : (i : Int) < (len : Int) := by omega
          have hil : i < l.length := by rw [HLEN.out]; exact hlt
          obtain ⟨b, off, rfl, hbl, hrow⟩ := HA.out (by intro h0; rw [h0] at hil; exact absurd hil (Nat.not_lt_zero _))
          obtain ⟨x, hx⟩ : ∃ x, l[i] = x := ⟨_, rfl⟩
          have hr0 := hrow i hil
          rw [hx] at hr0
          have hr1 : wr.rangeAt b (off + i * 3) [.int .i64 x.k, .int .i64 x.a, .int .i64 x.b] := fun j v hj => by
            rw [World.cell?_of_block (w := w) (HBL.out.block b hbl)]; exact hr0 j v hj
          have HR1 := Lib.hid hr1
          have hstep := wB_succ l i hil
          rw [hx] at hstep
          have HSTEP := Lib.hid hstep
          have hnb : Below w.heap.size w ((wr.alloc (.cells (ra 0 0 0) 32)).setRow wr.heap.size (ra x.k x.a x.b)) := below_put HBL.out.size _ (HBL.out.alloc HBL.out.size _)
          have HNB := Lib.hid hnb
          obtain ⟨q, hq⟩ : ∃ q, wB l i = q := ⟨_, rfl⟩
          have HQ := Lib.hid hq
          rw [hq]
          clear hbl hrow hr0 hr1 hstep hnb hx hil hq
          cases q
          · go_wp2_with (first
              | (refine wpList_load_mid rfl 32 _ rfl b (off + i * 3) rfl [.int .i64 x.k, .int .i64 x.a, .int .i64 x.b] _ HR1.out Tryd.underlying32 rfl size_rec ?_)
              | (refine wpList_store_row rfl 32 (.tmp 10) (.tmp 36) rfl wr.heap.size (ra x.k x.a x.b) rfl rfl 32 (ra 0 0 0) (Blk.new wr (ra 0 0 0) 32) size_rec rfl (ra_one _ _ _) ?_)
              | (refine wpList_load_row_if rfl 32 (.tmp 10) rfl wr.heap.size rfl 32 (ra x.k x.a x.b) (0, 0) _ ((Blk.new wr (ra 0 0 0) 32).put (ra x.k x.a x.b)) Tryd.underlying32 rfl size_rec ?_))
            refine (rec_may x.k x.a x.b _).mono ?_
            rintro e w4 ⟨rfl, hb4⟩
            have HB4 : Hid (Below w.heap.size w w4) := HNB.out.trans (hb4.mono HNB.out.size)
            have HW : Hid (wB l (i + 1) = !mayR x.k x.a x.b) := by
              show wB l (i + 1) = _
              rw [HSTEP.out, HQ.out]; rfl
            clear hb4 HNB HSTEP HQ HR1
            obtain ⟨y, hy⟩ : ∃ y, mayR x.k x.a x.b = y := ⟨_, rfl⟩
            rw [hy] at HW ⊢
            clear hy
            cases y
            · have HW2 : Hid (wB l (i + 1) = true) := HW.out
              clear HW
              go_wp2_with fail
              go_roundw
              case rel =>
                exact ⟨i + 1, by omega, by go_num, congrArg Value.bool HW2.out.symm, HB4.out⟩
              case measure => simp [intOf]; omega
            · have HW2 : Hid (wB l (i + 1) = false) := HW.out
              clear HW
              go_wp2_with fail
              go_roundw
              case rel => exact ⟨i + 1, by omega, by go_num, congrArg Value.bool HW2.out.symm, HB4.out⟩
              case measure => simp [intOf]; omega
          · have HW : Hid (wB l (i + 1) = true) := by
              show wB l (i + 1) = _
              rw [HSTEP.out, HQ.out]; rfl
            clear HSTEP HQ
            go_wp2_with (first
              | (refine wpList_load_mid rfl 32 _ rfl b (off + i * 3) rfl [.int .i64 x.k, .int .i64 x.a, .int .i64 x.b] _ HR1.out Tryd.underlying32 rfl size_rec ?_)
              | (refine wpList_store_row rfl 32 (.tmp 10) (.tmp 36) rfl wr.heap.size (ra x.k x.a x.b) rfl rfl 32 (ra 0 0 0) (Blk.new wr (ra 0 0 0) 32) size_rec rfl (ra_one _ _ _) ?_))
            go_roundw
            case rel => exact ⟨i + 1, by omega, by go_num, congrArg Value.bool HW.out.symm, HNB.out⟩
            case measure => simp [intOf]; omega
        · obtain rfl : i = len := by omega
          have hltz : ¬ (i : Int) < (i : Int) := by omega
          obtain ⟨q, hq⟩ : ∃ q, wB l i = q := ⟨_, rfl⟩
          have HQ := Lib.hid hq
          rw [hq]
          clear hq
          rcases HCASE.out with ⟨rfl, rfl⟩ | ⟨hm0, rfl, hw⟩
          · clear HCASE
            go_wp2_with fail
            go_ret
            exact ⟨rfl, HBL.out⟩
          · have hmb : ((m : Int) == 0) = false := by simp; omega
            obtain rfl : q = true := by rw [← HQ.out]; exact hw
            clear HCASE HQ hw
            go_wp2_with fail
            go_ret
            exact ⟨rfl, HBL.out⟩

end Go.Proofs.YtklbmlnghindjaaDoor
