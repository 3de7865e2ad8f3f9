/- Texts of one claim, merged: FrR4, FrR5, FrB, FrB2, FrB3. -/
import Derived.Test.YtlacmfacigfioaaDoorM4
import Derived.Test.YtlacmfacigfioaaDoorM2

/- The reference of layer 5, walked: Decode. -/
namespace Go.Proofs.YtlacmfacigfioaaDoor
set_option maxRecDepth 100000
open Go.RowKit

def FrDec (s : ByteArray) (w : World) (r : Ending) (w' : World) : Prop := r = .returned (.agg (pageV s)) ∧ Below w.heap.size w w'
abbrev P0 : Array Value := pv 0 0 0 0 0 ByteArray.empty
abbrev P4 : Array Value := pv 4 0 0 0 0 ByteArray.empty
abbrev P1 : Array Value := pv 1 0 0 0 0 ByteArray.empty

theorem toList_same {a b : ByteArray} (h : a.toList = b.toList) : a = b := by
  rw [ByteArray.toList_eq, ByteArray.toList_eq] at h
  exact bytes_eq h
set_option maxRecDepth 100000 in
theorem rfr_dec_shape (s : ByteArray) (w : World) (hm : s.size ≤ 400) (h : ¬ ShapeOk s.size) : Calls Tryd.prog 13 #[.string s] w (FrDec s w) := by
  unfold FrDec
  rw [pageV_shape h]
  have h3 : (s.size : Int) % 9 ≠ 0 ∨ ((s.size : Int) % 9 = 0 ∧ (s.size : Int) < 36) ∨ ((s.size : Int) % 9 = 0 ∧ ¬ (s.size : Int) < 36 ∧ 315 < (s.size : Int)) := by unfold ShapeOk at h; omega
  clear h
  have hR := fun cs => (Blk.new w P0 30).put cs
  rcases h3 with h1 | ⟨h1, h2⟩ | ⟨h1, h2, h3⟩
  all_goals
    go_enter Tryd.func13, Tryd.ntmps13
    go_wp2_with (refine wpList_store_row rfl 30 (.tmp 2) (.tmp 26) rfl w.heap.size P4 rfl rfl 30 P0 (Blk.new w P0 30) size_page rfl (pv_one _ _ _ _ _ _) ?_)
    exact bodyPost_ret (results_cell_row (P := Tryd.prog) rfl _ _ w.heap.size 30 P4 (0, 0) _ rfl (hR P4) Tryd.underlying30 rfl size_page) rfl ⟨rfl, below_put (Nat.le_refl _) _ ((Below.refl _ _).alloc (Nat.le_refl _) _)⟩

set_option maxRecDepth 100000 in
theorem rfr_dec_blank (s : ByteArray) (w : World) (hm : s.size ≤ 400) (h : ShapeOk s.size) (hb : blankTo s (s.size / 9) = true) : Calls Tryd.prog 13 #[.string s] w (FrDec s w) := by
  unfold FrDec
  rw [pageV_blank h hb]
  have HB := Lib.hid hb
  have h1 : (s.size : Int) % 9 = 0 := by have := h.1; omega
  have h2 : ¬ (s.size : Int) < 36 := by have := h.2.1; omega
  have h3 : ¬ (315 : Int) < (s.size : Int) := by have := h.2.2; omega
  clear h hb
  have hR := fun cs => (Blk.new w P0 30).put cs
  go_enter Tryd.func13, Tryd.ntmps13
  go_wp2_with fail
  refine (rfr_erased s _ hm).mono ?_
  rintro r w' ⟨rfl, rfl⟩
  rw [HB.out]
  go_wp2_with (refine wpList_store_row rfl 30 (.tmp 2) (.tmp 29) rfl w.heap.size P1 rfl rfl 30 P0 (Blk.new w P0 30) size_page rfl (pv_one _ _ _ _ _ _) ?_)
  exact bodyPost_ret (results_cell_row (P := Tryd.prog) rfl _ _ w.heap.size 30 P1 (0, 0) _ rfl (hR P1) Tryd.underlying30 rfl size_page) rfl ⟨rfl, below_put (Nat.le_refl _) _ ((Below.refl _ _).alloc (Nat.le_refl _) _)⟩

/-- the world while Decode goes on: the result's block is as it was laid, and what is below -/
def CP (w0 w : World) : Prop := Blk w w0.heap.size P0 30 ∧ Below w0.heap.size w0 w
theorem CP.call {w0 w w' : World} (h : CP w0 w) (hb : Below w.heap.size w w') : CP w0 w' := ⟨h.1.after hb, h.2.trans (hb.mono h.2.size)⟩
theorem CP.end {w0 w : World} (h : CP w0 w) (cs : Array Value) : Blk (w.setRow w0.heap.size cs) w0.heap.size cs 30 ∧ Below w0.heap.size w0 (w.setRow w0.heap.size cs) := ⟨h.1.put cs, below_put (Nat.le_refl _) _ h.2⟩

/-- .. and the tag's block -/
def CQ (w0 : World) (g : Nat) (k l q e : Int) (w : World) : Prop := CP w0 w ∧ Blk w g (ta k l q e) 23
theorem CQ.call {w0 : World} {g : Nat} {k l q e : Int} {w w' : World} (h : CQ w0 g k l q e w) (hb : Below w.heap.size w w') : CQ w0 g k l q e w' := ⟨h.1.call hb, h.2.after hb⟩
theorem CQ.drew {w0 : World} {g : Nat} {k l q e : Int} {w : World} (h : CQ w0 g k l q e w) : CQ w0 g k l q e w.drew := h.call (Below.refl _ _).drew
/-- .. while the page is laid -/
def CR (w0 : World) (g : Nat) (k l q e : Int) (w : World) : Prop := (∃ cs, cs.size = 6 ∧ Blk w w0.heap.size cs 30) ∧ Blk w g (ta k l q e) 23 ∧ Below w0.heap.size w0 w
theorem CR.drew {w0 : World} {g : Nat} {k l q e : Int} {w : World} (h : CR w0 g k l q e w) : CR w0 g k l q e w.drew := ⟨h.1, h.2.1, Below.drew h.2.2⟩
def TR (B : Nat) (fin : Array Value) (w w' : World) : Prop := Blk w B fin 30 → Blk w' B fin 30
def SpR (B : Nat) (fin : Array Value) (_ : Nat) (_ : Act) (w : World) : Prop := Blk w B fin 30
theorem SpR.ext {B : Nat} {fin : Array Value} : ∀ j a a' w w', SpR B fin j a w → (∀ s ∈ ([] : List Tmp), a'.tmps.getD s undef = a.tmps.getD s undef) → TR B fin w w' → SpR B fin j a' w' := fun _ _ _ _ _ h _ hT => hT h

set_option maxHeartbeats 2000000 in
set_option maxRecDepth 100000 in
theorem rfr_dec_on (s : ByteArray) (w : World) (hm : s.size ≤ 400) (h : ShapeOk s.size) (hb : blankTo s (s.size / 9) = false) : Calls Tryd.prog 13 #[.string s] w (FrDec s w) := by
  unfold FrDec
  have HB := Lib.hid hb
  have HBad := Lib.hid (@pageV_bad s h hb)
  have HNone := Lib.hid (@pageV_none s h hb)
  have HPage := Lib.hid (@pageV_page s h hb)
  have h1 : (s.size : Int) % 9 = 0 := by have := h.1; omega
  have h2 : ¬ (s.size : Int) < 36 := by have := h.2.1; omega
  have h3 : ¬ (315 : Int) < (s.size : Int) := by have := h.2.2; omega
  obtain ⟨c, hc⟩ : ∃ c, s.size / 9 = c := ⟨_, rfl⟩
  have hsc : s.size = 9 * c := by omega
  have hc4 : 4 ≤ c := by omega
  have hc35 : c ≤ 35 := by omega
  rw [hc] at HBad HNone HPage
  have HC := Lib.hid hc
  have HSC := Lib.hid hsc
  have hsci : (s.size : Int) = 9 * (c : Int) := by omega
  clear h hb hc hsc
  go_enter Tryd.func13, Tryd.ntmps13
  go_wp2_with fail
  refine (rfr_erased s _ hm).mono ?_
  rintro r w' ⟨rfl, rfl⟩
  rw [HB.out]
  go_wp2_with fail
  go_loopw [3, 4, 5] (fun al wh i wr => ∃ k : Nat, k ≤ c ∧ i = .int .i64 ((9 * k : Nat) : Int) ∧ al = .string (heldTo s k) ∧ wh = .int .i64 (toldTo s k) ∧ badTo s k = false ∧ CP w wr) (fun _ _ i _ => s.size + 9 - (intOf i).toNat)
  case atStart => exact ⟨0, Nat.zero_le _, rfl, rfl, rfl, rfl, Blk.new _ _ _, (Below.refl _ _).alloc (Nat.le_refl _) _⟩
  case round =>
    obtain ⟨k, hk, rfl, rfl, rfl, hbk, hcp⟩ := hrel
    obtain ⟨wo, rfl⟩ : ∃ wo : World, wo = wr := ⟨_, rfl⟩
    have HCP := Lib.hid hcp
    have hcs := heldTo_size s k (by rw [HSC.out]; omega) hbk
    have HBK := Lib.hid hbk
    clear hcp hbk
    obtain ⟨j, hj⟩ : ∃ j, 9 * k = j := ⟨_, rfl⟩
    have hj4 : j ≤ 400 := by omega
    obtain ⟨o, ho⟩ : ∃ o, heldTo s k = o := ⟨_, rfl⟩
    obtain ⟨f, hf⟩ : ∃ f, toldTo s k = f := ⟨_, rfl⟩
    rw [ho] at hcs
    rw [ho, hf, hj]
    have ho4 : o.size ≤ 400 := by omega
    have HJ := Lib.hid hj
    have HO := Lib.hid ho
    have HF := Lib.hid hf
    by_cases hlt : k < c
    · have hjs : j + 9 ≤ s.size := by rw [HSC.out]; omega
      have hp : piece s 9 k = s.extract j (j + 9) := by unfold piece; rw [hj]
      have hz9 := piece_size s 9 k (by rw [HSC.out]; omega)
      have hdc := decS_cases (piece s 9 k) hz9
      have HN : Hid (heldTo s (k + 1) = o ++ (decS (s.extract j (j + 9))).1) := by show heldTo s k ++ (decS (piece s 9 k)).1 = _; rw [hp, ho]
      have HBN : Hid (badTo s (k + 1) = decide ((decS (s.extract j (j + 9))).2 = 4)) := by show (badTo s k || decide ((decS (piece s 9 k)).2 = 4)) = _; rw [hp, HBK.out]; rfl
      have HFN : Hid (fixTo s (k + 1) = (fixTo s k || decide ((decS (s.extract j (j + 9))).2 = 3))) := by show (fixTo s k || decide ((decS (piece s 9 k)).2 = 3)) = _; rw [hp]
      rw [hp] at hz9 hdc
      have HZ9 := Lib.hid hz9
      clear hp hz9 hcs hj ho hf
      go_wp2_with fail
      refine (rham_dec_yes (s.extract j (j + 9)) _ HZ9.out).mono ?_
      rintro r w2 ⟨rfl, hb2⟩
      have HCP2 := Lib.hid (HCP.out.call hb2)
      obtain ⟨v, hv⟩ : ∃ v, (decS (s.extract j (j + 9))).1 = v := ⟨_, rfl⟩
      obtain ⟨t, ht⟩ : ∃ t, (decS (s.extract j (j + 9))).2 = t := ⟨_, rfl⟩
      rw [hv, ht] at hdc ⊢
      rw [hv] at HN
      rw [ht] at HBN HFN
      clear hb2 hv ht HCP
      rcases hdc with rfl | ⟨rfl | rfl, hv8⟩
      · have HBd : Hid (badTo s c = true) := bad_later (HBN.out.trans rfl) (by omega)
        have HPV := Lib.hid (HBad.out HBd.out)
        go_wp2_with (refine wpList_store_row rfl 30 (.tmp 2) (.tmp 49) rfl w.heap.size P4 rfl rfl 30 P0 HCP2.out.1 size_page rfl (pv_one _ _ _ _ _ _) ?_)
        exact bodyPost_ret (results_cell_row (P := Tryd.prog) rfl _ _ w.heap.size 30 P4 (0, 0) _ rfl (HCP2.out.end P4).1 Tryd.underlying30 rfl size_page) rfl ⟨by rw [HPV.out], (HCP2.out.end P4).2⟩
      · have HT : Hid (toldTo s (k + 1) = f) := by show toldTo s (k + 1) = f; rw [← HF.out]; unfold toldTo; rw [HFN.out]; simp
        go_wp2_with fail
        go_roundw
        case rel => exact ⟨k + 1, by omega, by have := HJ.out; rw [show 9 * (k + 1) = j + 9 by omega]; try go_num, by rw [HN.out], by rw [HT.out], HBN.out.trans rfl, HCP2.out⟩
        case measure => simp [intOf]; omega
      · have HT : Hid (toldTo s (k + 1) = 3) := by show toldTo s (k + 1) = 3; unfold toldTo; rw [HFN.out]; simp
        go_wp2_with fail
        go_roundw
        case rel => exact ⟨k + 1, by omega, by have := HJ.out; rw [show 9 * (k + 1) = j + 9 by omega]; try go_num, by rw [HN.out], by rw [HT.out], HBN.out.trans rfl, HCP2.out⟩
        case measure => simp [intOf]; omega
    · obtain rfl : k = c := by omega
      have hjs : ¬ (j : Int) + 9 ≤ (s.size : Int) := by omega
      have hjb : decide ((j : Int) + 9 ≤ (s.size : Int)) = false := by simp; omega
      have hol : 32 ≤ o.size := by omega
      have hou : o.size ≤ 280 := by omega
      have HPN : Hid (¬ HoldsPage o → pageV s = P4) := by intro hn; exact HNone.out HBK.out (by rw [HO.out]; exact hn)
      have HPO : Hid (HoldsPage o → pageV s = pageOf s o k) := by intro hn; have := HPage.out HBK.out (by rw [HO.out]; exact hn); rwa [HO.out] at this
      obtain ⟨x, hx⟩ : ∃ x, o.extract 0 16 = x := ⟨_, rfl⟩
      have hx16 : x.size = 16 := by rw [← hx, ByteArray.size_extract]; omega
      have HXS : Hid (x.size ≤ maxLen) := by show x.size ≤ maxLen; rw [hx16]; decide
      have HX := Lib.hid hx
      have hxe := hx
      clear hcs hj ho hf hlt hx hx16
      go_wp2_with fail
      have HM8e : Hid (toldTo s k = f) := HF.out
      by_cases hok : OkT x
      · have HD := Lib.hid (decA_ok hok)
        have HE : Hid (decE x = 0) := if_pos hok
        have HOK := Lib.hid hok
        clear hok
        obtain ⟨k', hk'⟩ : ∃ y, byteT x 1 = y := ⟨_, rfl⟩
        obtain ⟨l', hl'⟩ : ∃ y, lT x = y := ⟨_, rfl⟩
        obtain ⟨q', hq'⟩ : ∃ y, qT x = y := ⟨_, rfl⟩
        obtain ⟨e', he'⟩ : ∃ y, eT x = y := ⟨_, rfl⟩
        rw [hk', hl', hq', he'] at HD
        obtain ⟨m, hm'⟩ : ∃ m, o.size - 4 = m := ⟨_, rfl⟩
        obtain ⟨m8, hm8'⟩ : ∃ m, o.size - 8 = m := ⟨_, rfl⟩
        obtain ⟨t4, ht4⟩ : ∃ t, o.extract m o.size = t := ⟨_, rfl⟩
        obtain ⟨bd, hbd⟩ : ∃ t, o.extract 0 m = t := ⟨_, rfl⟩
        obtain ⟨dt, hdt⟩ : ∃ t, o.extract 16 m8 = t := ⟨_, rfl⟩
        obtain ⟨wh, hwh⟩ : ∃ b, wholeB bd = b := ⟨_, rfl⟩
        have HM4 : Hid (IntKind.i64.wrap (((o.size : Nat) : Int) - 4) = (m : Int)) := by show IntKind.i64.wrap (((o.size : Nat) : Int) - 4) = (m : Int); rw [IntKind.wrap_i64]; omega
        have HM8 : Hid (IntKind.i64.wrap (((o.size : Nat) : Int) - 8) = (m8 : Int)) := by show IntKind.i64.wrap (((o.size : Nat) : Int) - 8) = (m8 : Int); rw [IntKind.wrap_i64]; omega
        have HMO : Hid (m ≤ o.size) := by show m ≤ o.size; omega
        have HMO8 : Hid (m8 ≤ o.size) := by show m8 ≤ o.size; omega
        have H16M : Hid (16 ≤ m8) := by show 16 ≤ m8; omega
        have HT4 := Lib.hid ht4
        have HBD := Lib.hid hbd
        have HDT := Lib.hid hdt
        have HWH := Lib.hid hwh
        have HBS : Hid (bd.size ≤ 1000) := by show bd.size ≤ 1000; rw [← hbd, ByteArray.size_extract]; omega
        have HPG : Hid (pageOf s o k = pv f k' l' q' e' dt) := by unfold pageOf; rw [HX.out, hk', hl', hq', he', HF.out, hm8', hdt]; exact rfl
        have HHP : Hid (HoldsPage o ↔ t4 = four0 ∧ wh = true) := by show HoldsPage o ↔ t4 = four0 ∧ wh = true; unfold HoldsPage; rw [HX.out, hm', ht4, hbd, hwh]; exact ⟨fun h => h.2, fun h => ⟨HOK.out, h⟩⟩
        clear hk' hl' hq' he' hm' hm8' ht4 hbd hdt hwh
        refine (rtag_dec x _ HXS.out).mono ?_
        rintro r w2 ⟨rfl, hb2⟩
        rw [HD.out, HE.out]
        have HCP2 := Lib.hid (HCP.out.call hb2)
        have HLT : Hid (w.heap.size < w2.heap.size) := HCP2.out.1.lt
        clear hb2 HCP
        have HCQ : Hid (CQ w w2.heap.size k' l' q' e' ((w2.alloc (.cells (ta 0 0 0 0) 23)).setRow w2.heap.size (ta k' l' q' e'))) := ⟨⟨(HCP2.out.1.alloc _).put_other (Nat.ne_of_gt HCP2.out.1.lt) _, below_put (Nat.le_of_lt HCP2.out.1.lt) _ (HCP2.out.2.alloc (Nat.le_of_lt HCP2.out.1.lt) _)⟩, (Blk.new w2 (ta 0 0 0 0) 23).put _⟩
        go_wp2_with (refine wpList_store_row rfl 23 (.tmp 10) (.tmp 61) rfl w2.heap.size (ta k' l' q' e') rfl rfl 23 (ta 0 0 0 0) (Blk.new w2 (ta 0 0 0 0) 23) size_tag rfl (ta_one _ _ _ _) ?_)
        by_cases ht : t4 = four0
        · have HQ : Hid ((t4.toList == four0.toList) = true) := by show (t4.toList == four0.toList) = true; rw [ht]; simp
          cases wh with
          | false =>
            have HPV : Hid (pageV s = P4) := HPN.out fun hp => by have := (HHP.out.1 hp).2; cases this
            clear ht
            refine wp_region_list3 (SV (vsFDC o t4 bd 0 m) [70]) (BaseFDC w.heap.size w2.heap.size o f 0) (CQ w w2.heap.size k' l' q' e') Goes (RV (vsFDC o t4 bd 0 m) (SpF 70)) rfl (by kernel_rfl) (RV.ext SpF.ext) ?base HCQ.out.drew (BaseFDC.of _ (by kernel_rfl)) ?steps ?fin
            case base => exact ⟨BaseFDC.put63, BaseFDC.put64, BaseFDC.put65, BaseFDC.put66, BaseFDC.put67, BaseFDC.put68, BaseFDC.put69, BaseFDC.put70, BaseFDC.put71, BaseFDC.put72, BaseFDC.put73, BaseFDC.put74, BaseFDC.put75, BaseFDC.put76, BaseFDC.put77, BaseFDC.put78, BaseFDC.put79, BaseFDC.put80, BaseFDC.put81, trivial⟩
            case steps =>
              refine ⟨?_, ?_, ?_, ?_, ?_, ?_, ?_, ?_, ?_, ?_, ?_, ?_, ?_, ?_, ?_, ?_, ?_, ?_, ?_, trivial⟩
              all_goals
                intro a w' hC hB hR
                obtain ⟨u, rfl⟩ := hB
                have HC := Lib.hid hC
                clear hC
              · clear hR
                refine if_yes (by kernel_rfl) ?_
                unfold Oper.wp
                go_simp
                exact ⟨.int .i64 0, rfl, HC.out, Below.refl _ _, rfl⟩
              · have h63 : u 63 = .int .i64 0 := hR ⟨0, .data⟩ (by simp) rfl
                clear hR
                simp only [h63]
                clear h63
                refine if_yes (by kernel_rfl) ?_
                unfold Oper.wp
                go_simp
                exact ⟨.bool false, rfl, HC.out, Below.refl _ _, rfl⟩
              · have h64 : u 64 = .bool false := hR ⟨1, .data⟩ (by simp) rfl
                clear hR
                simp only [h64]
                clear h64
                refine if_yes (by kernel_rfl) ?_
                unfold Oper.wp
                go_simp
                exact ⟨.bool false, rfl, HC.out, Below.refl _ _, rfl⟩
              · have g65 : u 65 = .bool false := hR ⟨2, .guard⟩ (by simp) rfl
                clear hR
                simp only [g65]
                clear g65
                refine if_yes (by kernel_rfl) ?_
                unfold Oper.wp
                go_simp
                exact ⟨.string o, rfl, HC.out, Below.refl _ _, rfl⟩
              · have g65 : u 65 = .bool false := hR ⟨2, .guard⟩ (by simp) rfl
                clear hR
                simp only [g65]
                clear g65
                refine if_yes (by kernel_rfl) ?_
                unfold Oper.wp
                go_simp
                exact ⟨.int .i64 (o.size : Nat), rfl, HC.out, Below.refl _ _, rfl⟩
              · have g65 : u 65 = .bool false := hR ⟨2, .guard⟩ (by simp) rfl
                have h67 : u 67 = .int .i64 (o.size : Nat) := hR ⟨4, .data⟩ (by simp) rfl
                have hm4 : IntKind.i64.wrap (((o.size : Nat) : Int) - 4) = (m : Int) := HM4.out
                clear hR
                simp only [g65, h67]
                clear g65 h67
                refine if_yes (by kernel_rfl) ?_
                unfold Oper.wp
                go_simp
                exact ⟨.int .i64 (m : Nat), rfl, HC.out, Below.refl _ _, rfl⟩
              · have g65 : u 65 = .bool false := hR ⟨2, .guard⟩ (by simp) rfl
                have h66 : u 66 = .string o := hR ⟨3, .data⟩ (by simp) rfl
                have h68 : u 68 = .int .i64 (m : Nat) := hR ⟨5, .data⟩ (by simp) rfl
                have hmo := HMO.out
                have ht4 := HT4.out
                clear hR
                simp only [g65, h66, h68]
                clear g65 h66 h68
                refine if_yes (by kernel_rfl) ?_
                unfold Oper.wp
                go_simp
                exact ⟨.string t4, rfl, HC.out, Below.refl _ _, rfl⟩
              · have g65 : u 65 = .bool false := hR ⟨2, .guard⟩ (by simp) rfl
                clear hR
                simp only [g65]
                clear g65
                refine if_yes (by kernel_rfl) ?_
                unfold Oper.wp
                go_simp
                exact ⟨.slice (some ⟨w'.heap.size, 0, none⟩) 4 4, rfl, HC.out.call ((Below.refl _ _).alloc (Nat.le_refl _) _), (Below.refl _ _).alloc (Nat.le_refl _) _, ⟨w'.heap.size, rfl, cells4 w' _⟩⟩
              · have g65 : u 65 = .bool false := hR ⟨2, .guard⟩ (by simp) rfl
                obtain ⟨y, hy, hz⟩ := hR ⟨7, .data⟩ (by simp) rfl
                have hy : u 70 = .slice (some ⟨y, 0, none⟩) 4 4 := hy
                clear hR
                simp only [g65]
                clear g65
                refine if_yes (by kernel_rfl) ?_
                simp only [hy]
                have hcv := conv_four y w' hz
                unfold Oper.wp
                go_simp
                exact ⟨.string four0, rfl, HC.out, Below.refl _ _, rfl⟩
              · have g65 : u 65 = .bool false := hR ⟨2, .guard⟩ (by simp) rfl
                have h69 : u 69 = .string t4 := hR ⟨6, .data⟩ (by simp) rfl
                have h71 : u 71 = .string four0 := hR ⟨8, .data⟩ (by simp) rfl
                have hq := HQ.out
                clear hR
                simp only [g65, h69, h71]
                clear g65 h69 h71
                refine if_yes (by kernel_rfl) ?_
                unfold Oper.wp
                go_simp
                exact ⟨.bool false, rfl, HC.out, Below.refl _ _, rfl⟩
              · have h65 : u 65 = .bool false := hR ⟨2, .data⟩ (by simp) rfl
                have h72 : u 72 = .bool false := hR ⟨9, .data⟩ (by simp) rfl
                clear hR
                simp only [h65, h72]
                clear h65 h72
                refine if_yes (by kernel_rfl) ?_
                unfold Oper.wp
                go_simp
                exact ⟨.bool false, rfl, HC.out, Below.refl _ _, rfl⟩
              · have h73 : u 73 = .bool false := hR ⟨10, .data⟩ (by simp) rfl
                clear hR
                simp only [h73]
                clear h73
                refine if_yes (by kernel_rfl) ?_
                unfold Oper.wp
                go_simp
                exact ⟨.bool false, rfl, HC.out, Below.refl _ _, rfl⟩
              · have g74 : u 74 = .bool false := hR ⟨11, .guard⟩ (by simp) rfl
                clear hR
                simp only [g74]
                clear g74
                refine if_yes (by kernel_rfl) ?_
                unfold Oper.wp
                go_simp
                exact ⟨.string o, rfl, HC.out, Below.refl _ _, rfl⟩
              · have g74 : u 74 = .bool false := hR ⟨11, .guard⟩ (by simp) rfl
                clear hR
                simp only [g74]
                clear g74
                refine if_yes (by kernel_rfl) ?_
                unfold Oper.wp
                go_simp
                exact ⟨.int .i64 (o.size : Nat), rfl, HC.out, Below.refl _ _, rfl⟩
              · have g74 : u 74 = .bool false := hR ⟨11, .guard⟩ (by simp) rfl
                have h76 : u 76 = .int .i64 (o.size : Nat) := hR ⟨13, .data⟩ (by simp) rfl
                have hm4 : IntKind.i64.wrap (((o.size : Nat) : Int) - 4) = (m : Int) := HM4.out
                clear hR
                simp only [g74, h76]
                clear g74 h76
                refine if_yes (by kernel_rfl) ?_
                unfold Oper.wp
                go_simp
                exact ⟨.int .i64 (m : Nat), rfl, HC.out, Below.refl _ _, rfl⟩
              · have g74 : u 74 = .bool false := hR ⟨11, .guard⟩ (by simp) rfl
                have h75 : u 75 = .string o := hR ⟨12, .data⟩ (by simp) rfl
                have h77 : u 77 = .int .i64 (m : Nat) := hR ⟨14, .data⟩ (by simp) rfl
                have hmo := HMO.out
                have hbd := HBD.out
                clear hR
                simp only [g74, h75, h77]
                clear g74 h75 h77
                refine if_yes (by kernel_rfl) ?_
                unfold Oper.wp
                go_simp
                exact ⟨.string bd, rfl, HC.out, Below.refl _ _, rfl⟩
              · have g74 : u 74 = .bool false := hR ⟨11, .guard⟩ (by simp) rfl
                have h78 : u 78 = .string bd := hR ⟨15, .data⟩ (by simp) rfl
                clear hR
                simp only [g74, h78]
                clear g74 h78
                refine if_yes (by kernel_rfl) ?_
                unfold Oper.wp
                go_simp
                refine (rwhole_any bd _ HBS.out).mono ?_
                rintro r w2 ⟨rfl, hb2⟩
                rw [HWH.out]
                exact ⟨.bool false, rfl, HC.out.call hb2, hb2, rfl⟩
              · have g74 : u 74 = .bool false := hR ⟨11, .guard⟩ (by simp) rfl
                have h79 : u 79 = .bool false := hR ⟨16, .data⟩ (by simp) rfl
                clear hR
                simp only [g74, h79]
                clear g74 h79
                refine if_yes (by kernel_rfl) ?_
                unfold Oper.wp
                go_simp
                exact ⟨.bool true, rfl, HC.out, Below.refl _ _, rfl⟩
              · have h74 : u 74 = .bool false := hR ⟨11, .data⟩ (by simp) rfl
                have h80 : u 80 = .bool true := hR ⟨17, .data⟩ (by simp) rfl
                clear hR
                simp only [h74, h80]
                clear h74 h80
                refine if_yes (by kernel_rfl) ?_
                unfold Oper.wp
                go_simp
                exact ⟨.bool true, rfl, HC.out, Below.refl _ _, rfl⟩
            case fin =>
              intro a w' hC hB hR
              have h81 : a.tmps.getD 81 undef = .bool true := hR 18 (by decide)
              clear hR
              have HC := Lib.hid hC.1
              clear hC
              obtain ⟨u, rfl⟩ := hB
              have h81 : u 81 = .bool true := h81
              simp only [h81]
              clear h81
              go_wp2_with (refine wpList_store_row rfl 30 (.tmp 2) (.tmp 82) rfl w.heap.size P4 rfl rfl 30 P0 HC.out.1 size_page rfl (pv_one _ _ _ _ _ _) ?_)
              exact bodyPost_ret (results_cell_row (P := Tryd.prog) rfl _ _ w.heap.size 30 P4 (0, 0) _ rfl (HC.out.end P4).1 Tryd.underlying30 rfl size_page) rfl ⟨by rw [HPV.out], (HC.out.end P4).2⟩
          | true =>
            have HPV : Hid (pageV s = pv f k' l' q' e' dt) := (HPO.out (HHP.out.2 ⟨ht, rfl⟩)).trans HPG.out
            clear ht
            refine wp_region_list3 (SV (vsFDD o t4 bd 0 m) [70]) (BaseFDD w.heap.size w2.heap.size o f 0) (CQ w w2.heap.size k' l' q' e') Goes (RV (vsFDD o t4 bd 0 m) (SpF 70)) rfl (by kernel_rfl) (RV.ext SpF.ext) ?base HCQ.out.drew (BaseFDD.of _ (by kernel_rfl)) ?steps ?fin
            case base => exact ⟨BaseFDD.put63, BaseFDD.put64, BaseFDD.put65, BaseFDD.put66, BaseFDD.put67, BaseFDD.put68, BaseFDD.put69, BaseFDD.put70, BaseFDD.put71, BaseFDD.put72, BaseFDD.put73, BaseFDD.put74, BaseFDD.put75, BaseFDD.put76, BaseFDD.put77, BaseFDD.put78, BaseFDD.put79, BaseFDD.put80, BaseFDD.put81, trivial⟩
            case steps =>
              refine ⟨?_, ?_, ?_, ?_, ?_, ?_, ?_, ?_, ?_, ?_, ?_, ?_, ?_, ?_, ?_, ?_, ?_, ?_, ?_, trivial⟩
              all_goals
                intro a w' hC hB hR
                obtain ⟨u, rfl⟩ := hB
                have HC := Lib.hid hC
                clear hC
              · clear hR
                refine if_yes (by kernel_rfl) ?_
                unfold Oper.wp
                go_simp
                exact ⟨.int .i64 0, rfl, HC.out, Below.refl _ _, rfl⟩
              · have h63 : u 63 = .int .i64 0 := hR ⟨0, .data⟩ (by simp) rfl
                clear hR
                simp only [h63]
                clear h63
                refine if_yes (by kernel_rfl) ?_
                unfold Oper.wp
                go_simp
                exact ⟨.bool false, rfl, HC.out, Below.refl _ _, rfl⟩
              · have h64 : u 64 = .bool false := hR ⟨1, .data⟩ (by simp) rfl
                clear hR
                simp only [h64]
                clear h64
                refine if_yes (by kernel_rfl) ?_
                unfold Oper.wp
                go_simp
                exact ⟨.bool false, rfl, HC.out, Below.refl _ _, rfl⟩
              · have g65 : u 65 = .bool false := hR ⟨2, .guard⟩ (by simp) rfl
                clear hR
                simp only [g65]
                clear g65
                refine if_yes (by kernel_rfl) ?_
                unfold Oper.wp
                go_simp
                exact ⟨.string o, rfl, HC.out, Below.refl _ _, rfl⟩
              · have g65 : u 65 = .bool false := hR ⟨2, .guard⟩ (by simp) rfl
                clear hR
                simp only [g65]
                clear g65
                refine if_yes (by kernel_rfl) ?_
                unfold Oper.wp
                go_simp
                exact ⟨.int .i64 (o.size : Nat), rfl, HC.out, Below.refl _ _, rfl⟩
              · have g65 : u 65 = .bool false := hR ⟨2, .guard⟩ (by simp) rfl
                have h67 : u 67 = .int .i64 (o.size : Nat) := hR ⟨4, .data⟩ (by simp) rfl
                have hm4 : IntKind.i64.wrap (((o.size : Nat) : Int) - 4) = (m : Int) := HM4.out
                clear hR
                simp only [g65, h67]
                clear g65 h67
                refine if_yes (by kernel_rfl) ?_
                unfold Oper.wp
                go_simp
                exact ⟨.int .i64 (m : Nat), rfl, HC.out, Below.refl _ _, rfl⟩
              · have g65 : u 65 = .bool false := hR ⟨2, .guard⟩ (by simp) rfl
                have h66 : u 66 = .string o := hR ⟨3, .data⟩ (by simp) rfl
                have h68 : u 68 = .int .i64 (m : Nat) := hR ⟨5, .data⟩ (by simp) rfl
                have hmo := HMO.out
                have ht4 := HT4.out
                clear hR
                simp only [g65, h66, h68]
                clear g65 h66 h68
                refine if_yes (by kernel_rfl) ?_
                unfold Oper.wp
                go_simp
                exact ⟨.string t4, rfl, HC.out, Below.refl _ _, rfl⟩
              · have g65 : u 65 = .bool false := hR ⟨2, .guard⟩ (by simp) rfl
                clear hR
                simp only [g65]
                clear g65
                refine if_yes (by kernel_rfl) ?_
                unfold Oper.wp
                go_simp
                exact ⟨.slice (some ⟨w'.heap.size, 0, none⟩) 4 4, rfl, HC.out.call ((Below.refl _ _).alloc (Nat.le_refl _) _), (Below.refl _ _).alloc (Nat.le_refl _) _, ⟨w'.heap.size, rfl, cells4 w' _⟩⟩
              · have g65 : u 65 = .bool false := hR ⟨2, .guard⟩ (by simp) rfl
                obtain ⟨y, hy, hz⟩ := hR ⟨7, .data⟩ (by simp) rfl
                have hy : u 70 = .slice (some ⟨y, 0, none⟩) 4 4 := hy
                clear hR
                simp only [g65]
                clear g65
                refine if_yes (by kernel_rfl) ?_
                simp only [hy]
                have hcv := conv_four y w' hz
                unfold Oper.wp
                go_simp
                exact ⟨.string four0, rfl, HC.out, Below.refl _ _, rfl⟩
              · have g65 : u 65 = .bool false := hR ⟨2, .guard⟩ (by simp) rfl
                have h69 : u 69 = .string t4 := hR ⟨6, .data⟩ (by simp) rfl
                have h71 : u 71 = .string four0 := hR ⟨8, .data⟩ (by simp) rfl
                have hq := HQ.out
                clear hR
                simp only [g65, h69, h71]
                clear g65 h69 h71
                refine if_yes (by kernel_rfl) ?_
                unfold Oper.wp
                go_simp
                exact ⟨.bool false, rfl, HC.out, Below.refl _ _, rfl⟩
              · have h65 : u 65 = .bool false := hR ⟨2, .data⟩ (by simp) rfl
                have h72 : u 72 = .bool false := hR ⟨9, .data⟩ (by simp) rfl
                clear hR
                simp only [h65, h72]
                clear h65 h72
                refine if_yes (by kernel_rfl) ?_
                unfold Oper.wp
                go_simp
                exact ⟨.bool false, rfl, HC.out, Below.refl _ _, rfl⟩
              · have h73 : u 73 = .bool false := hR ⟨10, .data⟩ (by simp) rfl
                clear hR
                simp only [h73]
                clear h73
                refine if_yes (by kernel_rfl) ?_
                unfold Oper.wp
                go_simp
                exact ⟨.bool false, rfl, HC.out, Below.refl _ _, rfl⟩
              · have g74 : u 74 = .bool false := hR ⟨11, .guard⟩ (by simp) rfl
                clear hR
                simp only [g74]
                clear g74
                refine if_yes (by kernel_rfl) ?_
                unfold Oper.wp
                go_simp
                exact ⟨.string o, rfl, HC.out, Below.refl _ _, rfl⟩
              · have g74 : u 74 = .bool false := hR ⟨11, .guard⟩ (by simp) rfl
                clear hR
                simp only [g74]
                clear g74
                refine if_yes (by kernel_rfl) ?_
                unfold Oper.wp
                go_simp
                exact ⟨.int .i64 (o.size : Nat), rfl, HC.out, Below.refl _ _, rfl⟩
              · have g74 : u 74 = .bool false := hR ⟨11, .guard⟩ (by simp) rfl
                have h76 : u 76 = .int .i64 (o.size : Nat) := hR ⟨13, .data⟩ (by simp) rfl
                have hm4 : IntKind.i64.wrap (((o.size : Nat) : Int) - 4) = (m : Int) := HM4.out
                clear hR
                simp only [g74, h76]
                clear g74 h76
                refine if_yes (by kernel_rfl) ?_
                unfold Oper.wp
                go_simp
                exact ⟨.int .i64 (m : Nat), rfl, HC.out, Below.refl _ _, rfl⟩
              · have g74 : u 74 = .bool false := hR ⟨11, .guard⟩ (by simp) rfl
                have h75 : u 75 = .string o := hR ⟨12, .data⟩ (by simp) rfl
                have h77 : u 77 = .int .i64 (m : Nat) := hR ⟨14, .data⟩ (by simp) rfl
                have hmo := HMO.out
                have hbd := HBD.out
                clear hR
                simp only [g74, h75, h77]
                clear g74 h75 h77
                refine if_yes (by kernel_rfl) ?_
                unfold Oper.wp
                go_simp
                exact ⟨.string bd, rfl, HC.out, Below.refl _ _, rfl⟩
              · have g74 : u 74 = .bool false := hR ⟨11, .guard⟩ (by simp) rfl
                have h78 : u 78 = .string bd := hR ⟨15, .data⟩ (by simp) rfl
                clear hR
                simp only [g74, h78]
                clear g74 h78
                refine if_yes (by kernel_rfl) ?_
                unfold Oper.wp
                go_simp
                refine (rwhole_any bd _ HBS.out).mono ?_
                rintro r w2 ⟨rfl, hb2⟩
                rw [HWH.out]
                exact ⟨.bool true, rfl, HC.out.call hb2, hb2, rfl⟩
              · have g74 : u 74 = .bool false := hR ⟨11, .guard⟩ (by simp) rfl
                have h79 : u 79 = .bool true := hR ⟨16, .data⟩ (by simp) rfl
                clear hR
                simp only [g74, h79]
                clear g74 h79
                refine if_yes (by kernel_rfl) ?_
                unfold Oper.wp
                go_simp
                exact ⟨.bool false, rfl, HC.out, Below.refl _ _, rfl⟩
              · have h74 : u 74 = .bool false := hR ⟨11, .data⟩ (by simp) rfl
                have h80 : u 80 = .bool false := hR ⟨17, .data⟩ (by simp) rfl
                clear hR
                simp only [h74, h80]
                clear h74 h80
                refine if_yes (by kernel_rfl) ?_
                unfold Oper.wp
                go_simp
                exact ⟨.bool false, rfl, HC.out, Below.refl _ _, rfl⟩
            case fin =>
              intro a w' hC hB hR
              have h81 : a.tmps.getD 81 undef = .bool false := hR 18 (by decide)
              clear hR
              have HC := Lib.hid hC
              have hlt2 : w.heap.size ≠ w2.heap.size := Nat.ne_of_lt HLT.out
              have HNE := Lib.hid hlt2
              clear hC hlt2
              obtain ⟨u, rfl⟩ := hB
              have h81 : u 81 = .bool false := h81
              simp only [h81]
              clear h81
              go_wp2_with fail
              have hCR : CR w w2.heap.size k' l' q' e' w' := ⟨⟨P0, rfl, HC.out.1.1⟩, HC.out.2, HC.out.1.2⟩
              have HCR := Lib.hid hCR
              clear hCR HC
              refine wp_region_list3 (SV (vsFP o dt f k' l' q' e' m8) []) (BaseFP w.heap.size w2.heap.size o f) (CR w w2.heap.size k' l' q' e') (TR w.heap.size (pv f k' l' q' e' dt)) (RV (vsFP o dt f k' l' q' e' m8) (SpR w.heap.size (pv f k' l' q' e' dt))) rfl (by kernel_rfl) (RV.ext SpR.ext) ?base HCR.out.drew (BaseFP.of _ (by kernel_rfl)) ?steps ?fin
              case base => exact ⟨BaseFP.put83, BaseFP.put84, BaseFP.put85, BaseFP.put86, BaseFP.put87, BaseFP.put88, BaseFP.put89, fun a v h => h, trivial⟩
              case steps =>
                refine ⟨?_, ?_, ?_, ?_, ?_, ?_, ?_, ?_, trivial⟩
                all_goals
                  intro a w' hC hB hR
                  obtain ⟨u, rfl⟩ := hB
                  have HC := Lib.hid hC
                  clear hC
                · clear hR
                  refine if_yes (by kernel_rfl) ?_
                  unfold Oper.wp
                  go_simp
                  exact ⟨.int .i64 f, rfl, HC.out, id, rfl⟩
                · clear hR
                  refine if_yes (by kernel_rfl) ?_
                  exact wp_load_row 23 (.tmp 10) rfl w2.heap.size rfl 23 (ta k' l' q' e') (0, 0) _ HC.out.2.1 Tryd.underlying23 rfl size_tag ⟨.agg (ta k' l' q' e'), rfl, HC.out, id, rfl⟩
                · clear hR
                  refine if_yes (by kernel_rfl) ?_
                  unfold Oper.wp
                  go_simp
                  exact ⟨.string o, rfl, HC.out, id, rfl⟩
                · clear hR
                  refine if_yes (by kernel_rfl) ?_
                  unfold Oper.wp
                  go_simp
                  exact ⟨.int .i64 (o.size : Nat), rfl, HC.out, id, rfl⟩
                · have h86 : u 86 = .int .i64 (o.size : Nat) := hR ⟨3, .data⟩ (by simp) rfl
                  have hm8 : IntKind.i64.wrap (((o.size : Nat) : Int) - 8) = (m8 : Int) := HM8.out
                  clear hR
                  simp only [h86]
                  clear h86
                  refine if_yes (by kernel_rfl) ?_
                  unfold Oper.wp
                  go_simp
                  exact ⟨.int .i64 (m8 : Nat), rfl, HC.out, id, rfl⟩
                · have h85 : u 85 = .string o := hR ⟨2, .data⟩ (by simp) rfl
                  have h87 : u 87 = .int .i64 (m8 : Nat) := hR ⟨4, .data⟩ (by simp) rfl
                  have hmo := HMO8.out
                  have h16m : (16 : Int) ≤ (m8 : Int) := by have := H16M.out; omega
                  have hdt := HDT.out
                  clear hR
                  simp only [h85, h87]
                  clear h85 h87
                  refine if_yes (by kernel_rfl) ?_
                  unfold Oper.wp
                  go_simp
                  exact ⟨.string dt, rfl, HC.out, id, rfl⟩
                · have h83 : u 83 = .int .i64 f := hR ⟨0, .data⟩ (by simp) rfl
                  have h84 : u 84 = .agg (ta k' l' q' e') := hR ⟨1, .data⟩ (by simp) rfl
                  have h88 : u 88 = .string dt := hR ⟨5, .data⟩ (by simp) rfl
                  have hbu := fun w => build_page f k' l' q' e' dt w
                  clear hR
                  simp only [h83, h84, h88]
                  clear h83 h84 h88
                  refine if_yes (by kernel_rfl) ?_
                  unfold Oper.wp
                  go_simp
                  exact ⟨.agg (pv f k' l' q' e' dt), rfl, HC.out, id, rfl⟩
                · have h89 : u 89 = .agg (pv f k' l' q' e' dt) := hR ⟨6, .data⟩ (by simp) rfl
                  clear hR
                  simp only [h89]
                  clear h89
                  refine if_yes (by kernel_rfl) ?_
                  obtain ⟨cs, hcs, hbk⟩ := HC.out.1
                  exact wp_store_row 30 (.tmp 2) (.tmp 89) rfl _ (pv f k' l' q' e' dt) rfl rfl 30 cs hbk size_page hcs (pv_one _ _ _ _ _ _) ⟨undef, rfl, ⟨⟨_, rfl, hbk.put _⟩, HC.out.2.1.put_other HNE.out _, below_put (Nat.le_refl _) _ HC.out.2.2⟩, fun _ => hbk.put _, hbk.put _⟩
              case fin =>
                intro a w3 hC hB hR
                have hfin : Blk w3 w.heap.size (pv f k' l' q' e' dt) 30 := hR 7 (by decide)
                clear hR
                have HF3 := Lib.hid hfin
                have HL3 := Lib.hid hC.2.2
                clear hC hfin
                obtain ⟨u, rfl⟩ := hB
                go_wp2_with fail
                exact bodyPost_ret (results_cell_row (P := Tryd.prog) rfl _ _ w.heap.size 30 (pv f k' l' q' e' dt) (0, 0) _ rfl HF3.out Tryd.underlying30 rfl size_page) rfl ⟨by rw [HPV.out], HL3.out⟩
        · have HQ : Hid ((t4.toList == four0.toList) = false) := by
            show (t4.toList == four0.toList) = false
            rw [Bool.eq_false_iff]
            intro h2
            have h3 : t4.toList = four0.toList := by simpa using h2
            exact ht (toList_same h3)
          have HPV : Hid (pageV s = P4) := HPN.out fun hp => ht (HHP.out.1 hp).1
          clear ht
          refine wp_region_list3 (SV (vsFDB o t4 0 m) [70]) (BaseFDB w.heap.size w2.heap.size o f 0) (CQ w w2.heap.size k' l' q' e') Goes (RV (vsFDB o t4 0 m) (SpF 70)) rfl (by kernel_rfl) (RV.ext SpF.ext) ?base HCQ.out.drew (BaseFDB.of _ (by kernel_rfl)) ?steps ?fin
          case base => exact ⟨BaseFDB.put63, BaseFDB.put64, BaseFDB.put65, BaseFDB.put66, BaseFDB.put67, BaseFDB.put68, BaseFDB.put69, BaseFDB.put70, BaseFDB.put71, BaseFDB.put72, BaseFDB.put73, BaseFDB.put74, BaseFDB.put75, BaseFDB.put76, BaseFDB.put77, BaseFDB.put78, BaseFDB.put79, BaseFDB.put80, BaseFDB.put81, trivial⟩
          case steps =>
            refine ⟨?_, ?_, ?_, ?_, ?_, ?_, ?_, ?_, ?_, ?_, ?_, ?_, ?_, ?_, ?_, ?_, ?_, ?_, ?_, trivial⟩
            all_goals
              intro a w' hC hB hR
              obtain ⟨u, rfl⟩ := hB
              have HC := Lib.hid hC
              clear hC
            · clear hR
              refine if_yes (by kernel_rfl) ?_
              unfold Oper.wp
              go_simp
              exact ⟨.int .i64 0, rfl, HC.out, Below.refl _ _, rfl⟩
            · have h63 : u 63 = .int .i64 0 := hR ⟨0, .data⟩ (by simp) rfl
              clear hR
              simp only [h63]
              clear h63
              refine if_yes (by kernel_rfl) ?_
              unfold Oper.wp
              go_simp
              exact ⟨.bool false, rfl, HC.out, Below.refl _ _, rfl⟩
            · have h64 : u 64 = .bool false := hR ⟨1, .data⟩ (by simp) rfl
              clear hR
              simp only [h64]
              clear h64
              refine if_yes (by kernel_rfl) ?_
              unfold Oper.wp
              go_simp
              exact ⟨.bool false, rfl, HC.out, Below.refl _ _, rfl⟩
            · have g65 : u 65 = .bool false := hR ⟨2, .guard⟩ (by simp) rfl
              clear hR
              simp only [g65]
              clear g65
              refine if_yes (by kernel_rfl) ?_
              unfold Oper.wp
              go_simp
              exact ⟨.string o, rfl, HC.out, Below.refl _ _, rfl⟩
            · have g65 : u 65 = .bool false := hR ⟨2, .guard⟩ (by simp) rfl
              clear hR
              simp only [g65]
              clear g65
              refine if_yes (by kernel_rfl) ?_
              unfold Oper.wp
              go_simp
              exact ⟨.int .i64 (o.size : Nat), rfl, HC.out, Below.refl _ _, rfl⟩
            · have g65 : u 65 = .bool false := hR ⟨2, .guard⟩ (by simp) rfl
              have h67 : u 67 = .int .i64 (o.size : Nat) := hR ⟨4, .data⟩ (by simp) rfl
              have hm4 : IntKind.i64.wrap (((o.size : Nat) : Int) - 4) = (m : Int) := HM4.out
              clear hR
              simp only [g65, h67]
              clear g65 h67
              refine if_yes (by kernel_rfl) ?_
              unfold Oper.wp
              go_simp
              exact ⟨.int .i64 (m : Nat), rfl, HC.out, Below.refl _ _, rfl⟩
            · have g65 : u 65 = .bool false := hR ⟨2, .guard⟩ (by simp) rfl
              have h66 : u 66 = .string o := hR ⟨3, .data⟩ (by simp) rfl
              have h68 : u 68 = .int .i64 (m : Nat) := hR ⟨5, .data⟩ (by simp) rfl
              have hmo := HMO.out
              have ht4 := HT4.out
              clear hR
              simp only [g65, h66, h68]
              clear g65 h66 h68
              refine if_yes (by kernel_rfl) ?_
              unfold Oper.wp
              go_simp
              exact ⟨.string t4, rfl, HC.out, Below.refl _ _, rfl⟩
            · have g65 : u 65 = .bool false := hR ⟨2, .guard⟩ (by simp) rfl
              clear hR
              simp only [g65]
              clear g65
              refine if_yes (by kernel_rfl) ?_
              unfold Oper.wp
              go_simp
              exact ⟨.slice (some ⟨w'.heap.size, 0, none⟩) 4 4, rfl, HC.out.call ((Below.refl _ _).alloc (Nat.le_refl _) _), (Below.refl _ _).alloc (Nat.le_refl _) _, ⟨w'.heap.size, rfl, cells4 w' _⟩⟩
            · have g65 : u 65 = .bool false := hR ⟨2, .guard⟩ (by simp) rfl
              obtain ⟨y, hy, hz⟩ := hR ⟨7, .data⟩ (by simp) rfl
              have hy : u 70 = .slice (some ⟨y, 0, none⟩) 4 4 := hy
              clear hR
              simp only [g65]
              clear g65
              refine if_yes (by kernel_rfl) ?_
              simp only [hy]
              have hcv := conv_four y w' hz
              unfold Oper.wp
              go_simp
              exact ⟨.string four0, rfl, HC.out, Below.refl _ _, rfl⟩
            · have g65 : u 65 = .bool false := hR ⟨2, .guard⟩ (by simp) rfl
              have h69 : u 69 = .string t4 := hR ⟨6, .data⟩ (by simp) rfl
              have h71 : u 71 = .string four0 := hR ⟨8, .data⟩ (by simp) rfl
              have hq := HQ.out
              clear hR
              simp only [g65, h69, h71]
              clear g65 h69 h71
              refine if_yes (by kernel_rfl) ?_
              unfold Oper.wp
              go_simp
              exact ⟨.bool true, rfl, HC.out, Below.refl _ _, rfl⟩
            · have h65 : u 65 = .bool false := hR ⟨2, .data⟩ (by simp) rfl
              have h72 : u 72 = .bool true := hR ⟨9, .data⟩ (by simp) rfl
              clear hR
              simp only [h65, h72]
              clear h65 h72
              refine if_yes (by kernel_rfl) ?_
              unfold Oper.wp
              go_simp
              exact ⟨.bool true, rfl, HC.out, Below.refl _ _, rfl⟩
            · have h73 : u 73 = .bool true := hR ⟨10, .data⟩ (by simp) rfl
              clear hR
              simp only [h73]
              clear h73
              refine if_yes (by kernel_rfl) ?_
              unfold Oper.wp
              go_simp
              exact ⟨.bool true, rfl, HC.out, Below.refl _ _, rfl⟩
            · have g74 : u 74 = .bool true := hR ⟨11, .guard⟩ (by simp) rfl
              clear hR
              simp only [g74]
              clear g74
              refine if_no (by kernel_rfl) ?_
              exact ⟨undef, rfl, HC.out, Below.refl _ _, rfl⟩
            · have g74 : u 74 = .bool true := hR ⟨11, .guard⟩ (by simp) rfl
              clear hR
              simp only [g74]
              clear g74
              refine if_no (by kernel_rfl) ?_
              exact ⟨undef, rfl, HC.out, Below.refl _ _, rfl⟩
            · have g74 : u 74 = .bool true := hR ⟨11, .guard⟩ (by simp) rfl
              have h76 : u 76 = undef := hR ⟨13, .data⟩ (by simp) rfl
              clear hR
              simp only [g74, h76]
              clear g74 h76
              refine if_no (by kernel_rfl) ?_
              exact ⟨undef, rfl, HC.out, Below.refl _ _, rfl⟩
            · have g74 : u 74 = .bool true := hR ⟨11, .guard⟩ (by simp) rfl
              have h75 : u 75 = undef := hR ⟨12, .data⟩ (by simp) rfl
              have h77 : u 77 = undef := hR ⟨14, .data⟩ (by simp) rfl
              clear hR
              simp only [g74, h75, h77]
              clear g74 h75 h77
              refine if_no (by kernel_rfl) ?_
              exact ⟨undef, rfl, HC.out, Below.refl _ _, rfl⟩
            · have g74 : u 74 = .bool true := hR ⟨11, .guard⟩ (by simp) rfl
              have h78 : u 78 = undef := hR ⟨15, .data⟩ (by simp) rfl
              clear hR
              simp only [g74, h78]
              clear g74 h78
              refine if_no (by kernel_rfl) ?_
              exact ⟨undef, rfl, HC.out, Below.refl _ _, rfl⟩
            · have g74 : u 74 = .bool true := hR ⟨11, .guard⟩ (by simp) rfl
              have h79 : u 79 = undef := hR ⟨16, .data⟩ (by simp) rfl
              clear hR
              simp only [g74, h79]
              clear g74 h79
              refine if_no (by kernel_rfl) ?_
              exact ⟨undef, rfl, HC.out, Below.refl _ _, rfl⟩
            · have h74 : u 74 = .bool true := hR ⟨11, .data⟩ (by simp) rfl
              have h80 : u 80 = undef := hR ⟨17, .data⟩ (by simp) rfl
              clear hR
              simp only [h74, h80]
              clear h74 h80
              refine if_yes (by kernel_rfl) ?_
              unfold Oper.wp
              go_simp
              exact ⟨.bool true, rfl, HC.out, Below.refl _ _, rfl⟩
          case fin =>
            intro a w' hC hB hR
            have h81 : a.tmps.getD 81 undef = .bool true := hR 18 (by decide)
            clear hR
            have HC := Lib.hid hC.1
            clear hC
            obtain ⟨u, rfl⟩ := hB
            have h81 : u 81 = .bool true := h81
            simp only [h81]
            clear h81
            go_wp2_with (refine wpList_store_row rfl 30 (.tmp 2) (.tmp 82) rfl w.heap.size P4 rfl rfl 30 P0 HC.out.1 size_page rfl (pv_one _ _ _ _ _ _) ?_)
            exact bodyPost_ret (results_cell_row (P := Tryd.prog) rfl _ _ w.heap.size 30 P4 (0, 0) _ rfl (HC.out.end P4).1 Tryd.underlying30 rfl size_page) rfl ⟨by rw [HPV.out], (HC.out.end P4).2⟩
      · have HD := Lib.hid (decA_no hok)
        have HE : Hid (decE x = 3) := if_neg hok
        have HPV : Hid (pageV s = P4) := HPN.out fun hp => hok (by rw [← HX.out]; exact hp.1)
        clear hok
        refine (rtag_dec x _ HXS.out).mono ?_
        rintro r w2 ⟨rfl, hb2⟩
        rw [HD.out, HE.out]
        have HCP2 := Lib.hid (HCP.out.call hb2)
        clear hb2 HCP
        have HCQ : Hid (CQ w w2.heap.size 0 0 0 0 ((w2.alloc (.cells (ta 0 0 0 0) 23)).setRow w2.heap.size (ta 0 0 0 0))) := ⟨⟨(HCP2.out.1.alloc _).put_other (Nat.ne_of_gt HCP2.out.1.lt) _, below_put (Nat.le_of_lt HCP2.out.1.lt) _ (HCP2.out.2.alloc (Nat.le_of_lt HCP2.out.1.lt) _)⟩, (Blk.new w2 (ta 0 0 0 0) 23).put _⟩
        go_wp2_with (refine wpList_store_row rfl 23 (.tmp 10) (.tmp 61) rfl w2.heap.size (ta 0 0 0 0) rfl rfl 23 (ta 0 0 0 0) (Blk.new w2 (ta 0 0 0 0) 23) size_tag rfl (ta_one _ _ _ _) ?_)
        refine wp_region_list3 (SV (vsFDA 3) [70]) (BaseFDA w.heap.size w2.heap.size o f 3) (CQ w w2.heap.size 0 0 0 0) Goes (RV (vsFDA 3) (SpF 70)) rfl (by kernel_rfl) (RV.ext SpF.ext) ?base HCQ.out.drew (BaseFDA.of _ (by kernel_rfl)) ?steps ?fin
        case base => exact ⟨BaseFDA.put63, BaseFDA.put64, BaseFDA.put65, BaseFDA.put66, BaseFDA.put67, BaseFDA.put68, BaseFDA.put69, BaseFDA.put70, BaseFDA.put71, BaseFDA.put72, BaseFDA.put73, BaseFDA.put74, BaseFDA.put75, BaseFDA.put76, BaseFDA.put77, BaseFDA.put78, BaseFDA.put79, BaseFDA.put80, BaseFDA.put81, trivial⟩
        case steps =>
          refine ⟨?_, ?_, ?_, ?_, ?_, ?_, ?_, ?_, ?_, ?_, ?_, ?_, ?_, ?_, ?_, ?_, ?_, ?_, ?_, trivial⟩
          all_goals
            intro a w' hC hB hR
            obtain ⟨u, rfl⟩ := hB
            have HC := Lib.hid hC
            clear hC
          · clear hR
            refine if_yes (by kernel_rfl) ?_
            unfold Oper.wp
            go_simp
            exact ⟨.int .i64 3, rfl, HC.out, Below.refl _ _, rfl⟩
          · have h63 : u 63 = .int .i64 3 := hR ⟨0, .data⟩ (by simp) rfl
            clear hR
            simp only [h63]
            clear h63
            refine if_yes (by kernel_rfl) ?_
            unfold Oper.wp
            go_simp
            exact ⟨.bool true, rfl, HC.out, Below.refl _ _, rfl⟩
          · have h64 : u 64 = .bool true := hR ⟨1, .data⟩ (by simp) rfl
            clear hR
            simp only [h64]
            clear h64
            refine if_yes (by kernel_rfl) ?_
            unfold Oper.wp
            go_simp
            exact ⟨.bool true, rfl, HC.out, Below.refl _ _, rfl⟩
          · have g65 : u 65 = .bool true := hR ⟨2, .guard⟩ (by simp) rfl
            clear hR
            simp only [g65]
            clear g65
            refine if_no (by kernel_rfl) ?_
            exact ⟨undef, rfl, HC.out, Below.refl _ _, rfl⟩
          · have g65 : u 65 = .bool true := hR ⟨2, .guard⟩ (by simp) rfl
            clear hR
            simp only [g65]
            clear g65
            refine if_no (by kernel_rfl) ?_
            exact ⟨undef, rfl, HC.out, Below.refl _ _, rfl⟩
          · have g65 : u 65 = .bool true := hR ⟨2, .guard⟩ (by simp) rfl
            have h67 : u 67 = undef := hR ⟨4, .data⟩ (by simp) rfl
            clear hR
            simp only [g65, h67]
            clear g65 h67
            refine if_no (by kernel_rfl) ?_
            exact ⟨undef, rfl, HC.out, Below.refl _ _, rfl⟩
          · have g65 : u 65 = .bool true := hR ⟨2, .guard⟩ (by simp) rfl
            have h66 : u 66 = undef := hR ⟨3, .data⟩ (by simp) rfl
            have h68 : u 68 = undef := hR ⟨5, .data⟩ (by simp) rfl
            clear hR
            simp only [g65, h66, h68]
            clear g65 h66 h68
            refine if_no (by kernel_rfl) ?_
            exact ⟨undef, rfl, HC.out, Below.refl _ _, rfl⟩
          · have g65 : u 65 = .bool true := hR ⟨2, .guard⟩ (by simp) rfl
            clear hR
            simp only [g65]
            clear g65
            refine if_no (by kernel_rfl) ?_
            exact ⟨undef, rfl, HC.out, Below.refl _ _, rfl⟩
          · have g65 : u 65 = .bool true := hR ⟨2, .guard⟩ (by simp) rfl
            have h70 : u 70 = undef := hR ⟨7, .data⟩ (by simp) rfl
            clear hR
            simp only [g65, h70]
            clear g65 h70
            refine if_no (by kernel_rfl) ?_
            exact ⟨undef, rfl, HC.out, Below.refl _ _, rfl⟩
          · have g65 : u 65 = .bool true := hR ⟨2, .guard⟩ (by simp) rfl
            have h69 : u 69 = undef := hR ⟨6, .data⟩ (by simp) rfl
            have h71 : u 71 = undef := hR ⟨8, .data⟩ (by simp) rfl
            clear hR
            simp only [g65, h69, h71]
            clear g65 h69 h71
            refine if_no (by kernel_rfl) ?_
            exact ⟨undef, rfl, HC.out, Below.refl _ _, rfl⟩
          · have h65 : u 65 = .bool true := hR ⟨2, .data⟩ (by simp) rfl
            have h72 : u 72 = undef := hR ⟨9, .data⟩ (by simp) rfl
            clear hR
            simp only [h65, h72]
            clear h65 h72
            refine if_yes (by kernel_rfl) ?_
            unfold Oper.wp
            go_simp
            exact ⟨.bool true, rfl, HC.out, Below.refl _ _, rfl⟩
          · have h73 : u 73 = .bool true := hR ⟨10, .data⟩ (by simp) rfl
            clear hR
            simp only [h73]
            clear h73
            refine if_yes (by kernel_rfl) ?_
            unfold Oper.wp
            go_simp
            exact ⟨.bool true, rfl, HC.out, Below.refl _ _, rfl⟩
          · have g74 : u 74 = .bool true := hR ⟨11, .guard⟩ (by simp) rfl
            clear hR
            simp only [g74]
            clear g74
            refine if_no (by kernel_rfl) ?_
            exact ⟨undef, rfl, HC.out, Below.refl _ _, rfl⟩
          · have g74 : u 74 = .bool true := hR ⟨11, .guard⟩ (by simp) rfl
            clear hR
            simp only [g74]
            clear g74
            refine if_no (by kernel_rfl) ?_
            exact ⟨undef, rfl, HC.out, Below.refl _ _, rfl⟩
          · have g74 : u 74 = .bool true := hR ⟨11, .guard⟩ (by simp) rfl
            have h76 : u 76 = undef := hR ⟨13, .data⟩ (by simp) rfl
            clear hR
            simp only [g74, h76]
            clear g74 h76
            refine if_no (by kernel_rfl) ?_
            exact ⟨undef, rfl, HC.out, Below.refl _ _, rfl⟩
          · have g74 : u 74 = .bool true := hR ⟨11, .guard⟩ (by simp) rfl
            have h75 : u 75 = undef := hR ⟨12, .data⟩ (by simp) rfl
            have h77 : u 77 = undef := hR ⟨14, .data⟩ (by simp) rfl
            clear hR
            simp only [g74, h75, h77]
            clear g74 h75 h77
            refine if_no (by kernel_rfl) ?_
            exact ⟨undef, rfl, HC.out, Below.refl _ _, rfl⟩
          · have g74 : u 74 = .bool true := hR ⟨11, .guard⟩ (by simp) rfl
            have h78 : u 78 = undef := hR ⟨15, .data⟩ (by simp) rfl
            clear hR
            simp only [g74, h78]
            clear g74 h78
            refine if_no (by kernel_rfl) ?_
            exact ⟨undef, rfl, HC.out, Below.refl _ _, rfl⟩
          · have g74 : u 74 = .bool true := hR ⟨11, .guard⟩ (by simp) rfl
            have h79 : u 79 = undef := hR ⟨16, .data⟩ (by simp) rfl
            clear hR
            simp only [g74, h79]
            clear g74 h79
            refine if_no (by kernel_rfl) ?_
            exact ⟨undef, rfl, HC.out, Below.refl _ _, rfl⟩
          · have h74 : u 74 = .bool true := hR ⟨11, .data⟩ (by simp) rfl
            have h80 : u 80 = undef := hR ⟨17, .data⟩ (by simp) rfl
            clear hR
            simp only [h74, h80]
            clear h74 h80
            refine if_yes (by kernel_rfl) ?_
            unfold Oper.wp
            go_simp
            exact ⟨.bool true, rfl, HC.out, Below.refl _ _, rfl⟩
        case fin =>
          intro a w' hC hB hR
          have h81 : a.tmps.getD 81 undef = .bool true := hR 18 (by decide)
          clear hR
          have HC := Lib.hid hC.1
          clear hC
          obtain ⟨u, rfl⟩ := hB
          have h81 : u 81 = .bool true := h81
          simp only [h81]
          clear h81
          go_wp2_with (refine wpList_store_row rfl 30 (.tmp 2) (.tmp 82) rfl w.heap.size P4 rfl rfl 30 P0 HC.out.1 size_page rfl (pv_one _ _ _ _ _ _) ?_)
          exact bodyPost_ret (results_cell_row (P := Tryd.prog) rfl _ _ w.heap.size 30 P4 (0, 0) _ rfl (HC.out.end P4).1 Tryd.underlying30 rfl size_page) rfl ⟨by rw [HPV.out], (HC.out.end P4).2⟩

end Go.Proofs.YtlacmfacigfioaaDoor

/- The reference of layer 5, walked: Decode, whatever it is given. -/
namespace Go.Proofs.YtlacmfacigfioaaDoor
set_option maxRecDepth 100000
open Go.RowKit

theorem rfr_dec (s : ByteArray) (w : World) (hm : s.size ≤ 400) : Calls Tryd.prog 13 #[.string s] w (FrDec s w) := by
  by_cases h : ShapeOk s.size
  · cases hb : blankTo s (s.size / 9) with
    | true => exact rfr_dec_blank s w hm h hb
    | false => exact rfr_dec_on s w hm h hb
  · exact rfr_dec_shape s w hm h

end Go.Proofs.YtlacmfacigfioaaDoor

/- A page's bytes, decoded: what is encoded is told as good. No Go in sight. -/
namespace Go.Proofs.YtlacmfacigfioaaDoor
set_option maxRecDepth 100000
open Go.RowKit

theorem bs_app (a b : ByteArray) : bs (a ++ b) = bs a ++ bs b := by
  unfold bs; rw [ByteArray.data_append, Array.toList_append]
theorem bs_ext (s : ByteArray) (i j : Nat) : bs (s.extract i j) = ((bs s).take j).drop i := list_extract s i j
theorem ext_left (a b : ByteArray) (i j : Nat) (h : j ≤ a.size) : (a ++ b).extract i j = a.extract i j := by
  apply bs_inj
  rw [bs_ext, bs_ext, bs_app, List.take_append_of_le_length (by rw [bs_length]; exact h)]
theorem ext_right (a b : ByteArray) (i j : Nat) (h : a.size ≤ i) : (a ++ b).extract i j = b.extract (i - a.size) (j - a.size) := by
  apply bs_inj
  rw [bs_ext, bs_ext, bs_app, List.take_append, List.drop_append, List.drop_eq_nil_of_le (by rw [List.length_take, bs_length]; omega), List.nil_append]
  rw [List.length_take, bs_length]
  by_cases h2 : a.size ≤ j
  · rw [Nat.min_eq_right h2]
  · rw [show j - a.size = 0 by omega]; simp
theorem ext_whole (a : ByteArray) (j : Nat) (h : a.size ≤ j) : a.extract 0 j = a := by
  apply bs_inj
  rw [bs_ext, List.drop_zero, List.take_of_length_le (by rw [bs_length]; exact h)]
/-- a piece of the chunks is the chunk -/
theorem piece_chunks (z : ByteArray) (c : Nat) (hz : 8 * c ≤ z.size) : ∀ k, k < c → piece (chunks z c) 9 k = encS (piece z 8 k) := by
  induction c with
  | zero => intro k hk; omega
  | succ c ih =>
    intro k hk
    have hs := chunks_size z c (by omega)
    by_cases e : k = c
    · subst e
      unfold piece
      show (chunks z k ++ encS (piece z 8 k)).extract (9 * k) (9 * k + 9) = _
      rw [ext_right _ _ _ _ (by omega), hs, show 9 * k - 9 * k = 0 by omega, show 9 * k + 9 - 9 * k = 9 by omega]
      exact ext_whole _ _ (by rw [encS_size, piece_size z 8 k (by omega)]; omega)
    · have h1 := ih (by omega) k (by omega)
      rw [← h1]
      unfold piece
      exact ext_left _ _ _ _ (by omega)
theorem held_step (z : ByteArray) (k : Nat) : z.extract 0 (8 * k) ++ piece z 8 k = z.extract 0 (8 * (k + 1)) := by
  apply bs_inj
  unfold piece
  rw [bs_app, bs_ext, bs_ext, bs_ext, List.drop_zero, List.drop_zero, show 8 * (k + 1) = 8 * k + 8 by omega]
  conv => rhs; rw [← List.take_append_drop (8 * k) ((bs z).take (8 * k + 8))]
  rw [List.take_take, Nat.min_eq_left (by omega)]
/-- all chunks of a page told: nothing bad, nothing put right, all as it was -/
theorem told_chunks (z : ByteArray) (c : Nat) (hz : z.size = 8 * c) : ∀ k, k ≤ c → badTo (chunks z c) k = false ∧ fixTo (chunks z c) k = false ∧ heldTo (chunks z c) k = z.extract 0 (8 * k) := by
  intro k
  induction k with
  | zero =>
    intro _
    refine ⟨rfl, rfl, ?_⟩
    apply bs_inj
    rw [bs_ext]; simp [heldTo, bs]
  | succ k ih =>
    intro hk
    obtain ⟨h1, h2, h3⟩ := ih (by omega)
    have hp := piece_chunks z c (by omega) k (by omega)
    have hd : decS (piece (chunks z c) 9 k) = (piece z 8 k, 2) := by rw [hp, dec_enc _ (piece_size z 8 k (by omega))]
    refine ⟨?_, ?_, ?_⟩
    · show (badTo (chunks z c) k || decide ((decS (piece (chunks z c) 9 k)).2 = 4)) = false
      rw [h1, hd]; rfl
    · show (fixTo (chunks z c) k || decide ((decS (piece (chunks z c) 9 k)).2 = 3)) = false
      rw [h2, hd]; rfl
    · show heldTo (chunks z c) k ++ (decS (piece (chunks z c) 9 k)).1 = _
      rw [h3, hd]
      exact held_step z k
theorem seal_cut (x : ByteArray) : (sealS x).extract 0 x.size = x := by
  apply bs_inj
  rw [bs_ext, bs_sealS, List.drop_zero]
  unfold sealN
  rw [← bs_length, List.take_left]
theorem seal_whole (x : ByteArray) : wholeB (sealS x) = true := by
  rw [whole_long _ (by rw [sealS_size]; omega), sealS_size, show x.size + 4 - 4 = x.size by omega, seal_cut]
  simp
theorem inner_tag (k l q e : Int) (data : ByteArray) : (inner k l q e data).extract 0 16 = tagS k l q e := by
  unfold inner
  rw [ext_left _ _ _ _ (by rw [sealS_size, ByteArray.size_append, tagS_size]; omega)]
  apply bs_inj
  rw [bs_ext, bs_sealS, List.drop_zero]
  unfold sealN
  rw [bs_app, List.append_assoc, ← tagS_size k l q e, ← bs_length, List.take_left]
theorem inner_end (k l q e : Int) (data : ByteArray) : (inner k l q e data).extract ((inner k l q e data).size - 4) (inner k l q e data).size = four0 := by
  rw [inner_size]
  unfold inner
  rw [ext_right _ _ _ _ (by rw [sealS_size, ByteArray.size_append, tagS_size]; omega), sealS_size, ByteArray.size_append, tagS_size,
    show data.size + 24 - 4 - (16 + data.size + 4) = 0 by omega, show data.size + 24 - (16 + data.size + 4) = 4 by omega]
  exact ext_whole _ _ (Nat.le_refl _)
theorem inner_whole (k l q e : Int) (data : ByteArray) : wholeB ((inner k l q e data).extract 0 ((inner k l q e data).size - 4)) = true := by
  rw [inner_size]
  unfold inner
  rw [ext_left _ _ _ _ (by rw [sealS_size, ByteArray.size_append, tagS_size]; omega)]
  rw [ext_whole _ _ (by rw [sealS_size, ByteArray.size_append, tagS_size]; omega)]
  exact seal_whole _
theorem inner_data (k l q e : Int) (data : ByteArray) : (inner k l q e data).extract 16 ((inner k l q e data).size - 8) = data := by
  rw [inner_size]
  unfold inner
  rw [ext_left _ _ _ _ (by rw [sealS_size, ByteArray.size_append, tagS_size]; omega)]
  apply bs_inj
  rw [bs_ext, bs_sealS]
  unfold sealN
  rw [bs_app, List.append_assoc]
  have h16 : (bs (tagS k l q e)).length = 16 := by rw [bs_length, tagS_size]
  rw [show data.size + 24 - 8 = 16 + data.size by omega, List.take_append, List.drop_append, h16]
  rw [List.drop_eq_nil_of_le (by rw [List.length_take, h16]; omega), List.nil_append, List.length_take, h16, Nat.min_eq_right (by omega)]
  rw [show 16 - 16 = 0 by omega, List.drop_zero, show 16 + data.size - 16 = data.size by omega, ← bs_length, List.take_left]
theorem inner_page {k l q e : Int} (data : ByteArray) (h : MayT k l q e) : HoldsPage (inner k l q e data) := by
  refine ⟨?_, inner_end k l q e data, inner_whole k l q e data⟩
  rw [inner_tag]; exact tag_ok h
/-- a page is no blank one: its first byte has four bits that are 0 -/
theorem page_blank (k l q e : Int) (data : ByteArray) (c : Nat) (h : (inner k l q e data).size = 8 * c) (hc : 1 ≤ c) : blankTo (chunks (inner k l q e data) c) 1 = false := by
  show (true && decide (zs (piece (chunks (inner k l q e data) c) 9 0).data.toList ≤ 1)) = false
  rw [piece_chunks _ c (by omega) 0 (by omega), Bool.true_and]
  apply decide_eq_false
  have h8 := piece_size (inner k l q e data) 8 0 (by omega)
  have hp : piece (inner k l q e data) 8 0 = (tagS k l q e).extract 0 8 := by
    rw [← inner_tag k l q e data]
    apply bs_inj
    unfold piece
    rw [bs_ext, bs_ext, bs_ext]
    simp [List.take_take]
  obtain ⟨r, hr⟩ : ∃ r, (encS (piece (inner k l q e data) 8 0)).data.toList = 27 :: r := by
    refine ⟨(encS (piece (inner k l q e data) 8 0)).data.toList.tail, ?_⟩
    rw [hp]
    rfl
  rw [hr]
  show ¬ pop8 (255 - 27) + zs r ≤ 1
  have : pop8 (255 - 27) = 4 := by decide
  omega

theorem blank_no_later {s : ByteArray} {k c : Nat} (h : blankTo s k = false) (hc : k ≤ c) : blankTo s c = false := by
  induction c with
  | zero => rw [← Nat.le_zero.1 hc]; exact h
  | succ c ih =>
    by_cases e : k = c + 1
    · rw [← e]; exact h
    · show (blankTo s c && _) = false
      rw [ih (by omega)]; rfl
/-- WHAT IS ENCODED IS DECODED, as good -/
theorem page_back {k l q e : Int} (data : ByteArray) (hl : LenOk data.size) (hm : MayT k l q e) : pageV (pageS k l q e data) = pv 2 k l q e data := by
  obtain ⟨h8, h256, hmod⟩ := hl
  have hz := inner_size k l q e data
  obtain ⟨c, hc⟩ : ∃ c, (data.size + 24) / 8 = c := ⟨_, rfl⟩
  have hzc : (inner k l q e data).size = 8 * c := by omega
  have hs : (pageS k l q e data).size = 9 * c := by rw [pageS_size]; omega
  have hn : (pageS k l q e data).size / 9 = c := by omega
  have hp : pageS k l q e data = chunks (inner k l q e data) c := by unfold pageS; rw [hc]
  have hsh : ShapeOk (pageS k l q e data).size := by rw [hs]; unfold ShapeOk; omega
  have ht := told_chunks (inner k l q e data) c hzc c (Nat.le_refl _)
  have hh : heldTo (chunks (inner k l q e data) c) c = inner k l q e data := by rw [ht.2.2]; exact ext_whole _ _ (by omega)
  have hb : blankTo (chunks (inner k l q e data) c) c = false := blank_no_later (page_blank k l q e data c hzc (by omega)) (by omega)
  rw [pageV_page hsh (by rw [hn, hp]; exact hb) (by rw [hn, hp]; exact ht.1) (by rw [hn, hp, hh]; exact inner_page data hm)]
  rw [hn, hp, hh]
  unfold pageOf toldTo
  have hb2 := tag_bytes hm
  have hf := tag_fields hm
  rw [ht.2.1, inner_tag, inner_data, hb2.2.1, hf.1, hf.2.1, hf.2.2]
  rfl

end Go.Proofs.YtlacmfacigfioaaDoor

/- A page's bytes with bits turned: pieces, how many bits are 0, what is told. No Go in sight. -/
namespace Go.Proofs.YtlacmfacigfioaaDoor
set_option maxRecDepth 100000
open Go.RowKit

theorem bs_flip (s : ByteArray) (a j : Nat) (h : a < s.size) : bs (flipS s a j) = fl (bs s) a j := flipS_list s a j h
/-- a bit turned in one piece -/
theorem piece_flip_same (s : ByteArray) (k i j : Nat) (hi : i < 9) (hk : 9 * k + 9 ≤ s.size) : piece (flipS s (9 * k + i) j) 9 k = flipS (piece s 9 k) i j := by
  apply bs_inj
  have hp := piece_size s 9 k hk
  rw [bs_flip _ _ _ (by omega)]
  unfold piece
  rw [bs_ext, bs_ext, bs_flip _ _ _ (by omega)]
  unfold fl
  rw [List.take_set, List.drop_set, if_neg (by omega), show 9 * k + i - 9 * k = i by omega]
  congr 2
  have hl := bs_length s
  simp [List.getD, List.getElem?_drop, show i < 9 from hi]
theorem piece_flip_other (s : ByteArray) (k m i j : Nat) (hi : i < 9) (hk : 9 * k + 9 ≤ s.size) (hne : m ≠ k) : piece (flipS s (9 * k + i) j) 9 m = piece s 9 m := by
  apply bs_inj
  unfold piece
  rw [bs_ext, bs_ext, bs_flip _ _ _ (by omega)]
  unfold fl
  rw [List.take_set, List.drop_set]
  by_cases h : 9 * k + i < 9 * m
  · rw [if_pos h]
  · rw [if_neg h]
    rw [List.set_eq_of_length_le]
    rw [List.length_drop, List.length_take]
    omega
theorem zs_set (c : UInt8) : ∀ (l : List UInt8) (i : Nat), i < l.length → zs (l.set i c) + pop8 (255 - (l.getD i 0).toNat) = zs l + pop8 (255 - c.toNat)
  | [], i, h => by simp at h
  | b :: l, 0, _ => by simp only [List.set_cons_zero, zs, List.getD_cons_zero]; omega
  | b :: l, i + 1, h => by
    have := zs_set c l i (by simpa using h)
    simp only [List.set_cons_succ, zs, List.getD_cons_succ]; omega
theorem pop_fb (c : UInt8) (j : Nat) (hj : j < 8) : pop8 (255 - (fb c j).toNat) ≤ pop8 (255 - c.toNat) + 1 ∧ pop8 (255 - c.toNat) ≤ pop8 (255 - (fb c j).toNat) + 1 := by
  have h : ∀ n, n < 256 → ∀ j, j < 8 → pop8 (255 - (fb (UInt8.ofNat n) j).toNat) ≤ pop8 (255 - n) + 1 ∧ pop8 (255 - n) ≤ pop8 (255 - (fb (UInt8.ofNat n) j).toNat) + 1 := by decide +kernel
  have := h _ c.toNat_lt j hj
  rwa [UInt8.ofNat_toNat] at this
/-- a bit turned makes one bit more or less that is 0 -/
theorem zs_flip (s : ByteArray) (i j : Nat) (hi : i < s.size) (hj : j < 8) : zs (bs (flipS s i j)) ≤ zs (bs s) + 1 ∧ zs (bs s) ≤ zs (bs (flipS s i j)) + 1 := by
  rw [bs_flip _ _ _ hi]
  have h := zs_set (fb ((bs s).getD i 0) j) (bs s) i (by rw [bs_length]; exact hi)
  have h2 := pop_fb ((bs s).getD i 0) j hj
  unfold fl
  omega

/-- each chunk is as it was encoded, or with one bit turned (t k: the byte and the bit) -/
def OneEach (z s : ByteArray) (c : Nat) (t : Nat → Option (Nat × Nat)) : Prop :=
  s.size = 9 * c ∧ ∀ k, k < c → match t k with
    | none => piece s 9 k = encS (piece z 8 k)
    | some (i, j) => i < 9 ∧ j < 8 ∧ piece s 9 k = flipS (encS (piece z 8 k)) i j
def anyTo (t : Nat → Option (Nat × Nat)) : Nat → Bool
  | 0 => false
  | k + 1 => anyTo t k || (t k).isSome
theorem told_one (z s : ByteArray) (c : Nat) (t : Nat → Option (Nat × Nat)) (hz : z.size = 8 * c) (h : OneEach z s c t) : ∀ k, k ≤ c → badTo s k = false ∧ fixTo s k = anyTo t k ∧ heldTo s k = z.extract 0 (8 * k) := by
  intro k
  induction k with
  | zero =>
    intro _
    refine ⟨rfl, rfl, ?_⟩
    apply bs_inj
    rw [bs_ext]; simp [heldTo, bs]
  | succ k ih =>
    intro hk
    obtain ⟨h1, h2, h3⟩ := ih (by omega)
    have hk2 := h.2 k (by omega)
    have hp8 := piece_size z 8 k (by omega)
    have hd : decS (piece s 9 k) = (piece z 8 k, if (t k).isSome then 3 else 2) := by
      cases ht : t k with
      | none => rw [ht] at hk2; rw [hk2, dec_enc _ hp8]; rfl
      | some p =>
        obtain ⟨i, j⟩ := p
        rw [ht] at hk2
        rw [hk2.2.2, dec_one _ hp8 i j hk2.1 hk2.2.1]; rfl
    refine ⟨?_, ?_, ?_⟩
    · show (badTo s k || decide ((decS (piece s 9 k)).2 = 4)) = false
      rw [h1, hd]; cases (t k).isSome <;> rfl
    · show (fixTo s k || decide ((decS (piece s 9 k)).2 = 3)) = (anyTo t k || (t k).isSome)
      rw [h2, hd]; cases (t k).isSome <;> rfl
    · show heldTo s k ++ (decS (piece s 9 k)).1 = _
      rw [h3, hd]
      exact held_step z k
/-- the first chunk of a page has four bits that are 0 -/
theorem first_zeros (k l q e : Int) (data : ByteArray) : 4 ≤ zs (bs (encS (piece (inner k l q e data) 8 0))) := by
  have hp : piece (inner k l q e data) 8 0 = (tagS k l q e).extract 0 8 := by
    rw [← inner_tag k l q e data]
    apply bs_inj
    unfold piece
    rw [bs_ext, bs_ext, bs_ext]
    simp [List.take_take]
  obtain ⟨r, hr⟩ : ∃ r, bs (encS (piece (inner k l q e data) 8 0)) = 27 :: r := by
    refine ⟨(bs (encS (piece (inner k l q e data) 8 0))).tail, ?_⟩
    rw [hp]
    rfl
  rw [hr]
  show 4 ≤ pop8 (255 - 27) + zs r
  have : pop8 (255 - 27) = 4 := by decide
  omega
theorem blank_first {s : ByteArray} {c : Nat} (h : 2 ≤ zs (bs (piece s 9 0))) (hc : 1 ≤ c) : blankTo s c = false := by
  refine blank_no_later (k := 1) ?_ hc
  show (true && decide (zs (piece s 9 0).data.toList ≤ 1)) = false
  rw [Bool.true_and]
  apply decide_eq_false
  have : zs (bs (piece s 9 0)) = zs (piece s 9 0).data.toList := rfl
  omega
/-- ONE IN EACH: it is decoded as it was, as good or put right -/
theorem page_fixed {k l q e : Int} (data s : ByteArray) (c : Nat) (t : Nat → Option (Nat × Nat)) (hl : LenOk data.size) (hm : MayT k l q e) (hc : (data.size + 24) / 8 = c) (h : OneEach (inner k l q e data) s c t) :
    pageV s = pv (if anyTo t c then 3 else 2) k l q e data := by
  obtain ⟨h8, h256, hmod⟩ := hl
  have hz := inner_size k l q e data
  have hzc : (inner k l q e data).size = 8 * c := by omega
  have hs := h.1
  have hn : s.size / 9 = c := by omega
  have hsh : ShapeOk s.size := by rw [hs]; unfold ShapeOk; omega
  have ht := told_one (inner k l q e data) s c t hzc h c (Nat.le_refl _)
  have hh : heldTo s c = inner k l q e data := by rw [ht.2.2]; exact ext_whole _ _ (by omega)
  have hf4 := first_zeros k l q e data
  have h0 := h.2 0 (by omega)
  have hb : blankTo s c = false := by
    refine blank_first ?_ (by omega)
    cases ht0 : t 0 with
    | none => rw [ht0] at h0; rw [h0]; omega
    | some p =>
      obtain ⟨i, j⟩ := p
      rw [ht0] at h0
      have hz9 : (encS (piece (inner k l q e data) 8 0)).size = 9 := by rw [encS_size, piece_size _ 8 0 (by omega)]
      have := (zs_flip (encS (piece (inner k l q e data) 8 0)) i j (by omega) h0.2.1).2
      rw [h0.2.2]; omega
  rw [pageV_page hsh (by rw [hn]; exact hb) (by rw [hn]; exact ht.1) (by rw [hn, hh]; exact inner_page data hm)]
  rw [hn, hh]
  unfold pageOf toldTo
  have hb2 := tag_bytes hm
  have hf := tag_fields hm
  rw [ht.2.1, inner_tag, inner_data, hb2.2.1, hf.1, hf.2.1, hf.2.2]

/-- TWO IN ONE: where a chunk is bad, and the first one not blank, the page is bad -/
theorem page_told {s : ByteArray} {c k : Nat} (hs : s.size = 9 * c) (hc : 4 ≤ c) (hc2 : c ≤ 35) (hk : k < c) (hb : blankTo s c = false) (h4 : (decS (piece s 9 k)).2 = 4) : pageV s = pv 4 0 0 0 0 ByteArray.empty := by
  have hn : s.size / 9 = c := by omega
  have hsh : ShapeOk s.size := by rw [hs]; unfold ShapeOk; omega
  refine pageV_bad hsh (by rw [hn]; exact hb) ?_
  rw [hn]
  refine bad_later (k := k + 1) ?_ hk
  show (badTo s k || decide ((decS (piece s 9 k)).2 = 4)) = true
  rw [h4]; simp

end Go.Proofs.YtlacmfacigfioaaDoor

/- A blank page, with bits turned. No Go in sight. -/
namespace Go.Proofs.YtlacmfacigfioaaDoor
set_option maxRecDepth 100000
open Go.RowKit

def ffL (n : Nat) : List UInt8 := List.replicate n 255
def ffS (n : Nat) : ByteArray := ⟨(ffL n).toArray⟩
theorem blankS_eq (n : Nat) : blankS n = ffS ((n + 24) / 8 * 9) := rfl
theorem ffS_size (n : Nat) : (ffS n).size = n := by
  show (ffL n).toArray.size = n
  simp [ffL]
theorem bs_ff (n : Nat) : bs (ffS n) = ffL n := rfl
theorem ff_piece (n m k : Nat) (h : m * k + m ≤ n) : piece (ffS n) m k = ffS m := by
  apply bs_inj
  unfold piece
  rw [bs_ext, bs_ff, bs_ff]
  unfold ffL
  rw [List.take_replicate, List.drop_replicate]
  congr 1
  omega
theorem zs_ff : ∀ n, zs (ffL n) = 0
  | 0 => rfl
  | n + 1 => by
    show pop8 (255 - 255) + zs (ffL n) = 0
    rw [zs_ff n]; rfl
/-- eight bytes all of whose bits are 1 are encoded so -/
theorem enc_ff : encS (ffS 8) = ffS 9 := by
  apply bs_inj
  have h : bs (encS (ffS 8)) = bs (ffS 9) := by decide +kernel
  exact h
theorem ff_two : ∀ a, a < 72 → ∀ b, b < 72 → a ≠ b → 2 ≤ zs (fl (fl (ffL 9) (a / 8) (a % 8)) (b / 8) (b % 8)) := by decide +kernel

/-- each piece is blank, or with one bit turned: told as erased -/
theorem blank_erased {s : ByteArray} {c : Nat} (hs : s.size = 9 * c) (hc : 4 ≤ c) (hc2 : c ≤ 35) (h : ∀ k, k < c → zs (bs (piece s 9 k)) ≤ 1) : pageV s = pv 1 0 0 0 0 ByteArray.empty := by
  have hn : s.size / 9 = c := by omega
  have hsh : ShapeOk s.size := by rw [hs]; unfold ShapeOk; omega
  refine pageV_blank hsh ?_
  rw [hn]
  have hall : ∀ k, k ≤ c → blankTo s k = true := by
    intro k
    induction k with
    | zero => intro _; rfl
    | succ k ih =>
      intro hk
      show (blankTo s k && decide (zs (piece s 9 k).data.toList ≤ 1)) = true
      have h1 := h k (by omega)
      rw [ih (by omega), Bool.true_and]
      exact decide_eq_true h1
  exact hall c (Nat.le_refl _)
theorem ff_one (i j : Nat) (hi : i < 9) (hj : j < 8) : zs (bs (flipS (ffS 9) i j)) ≤ 1 := by
  have h := (zs_flip (ffS 9) i j (by rw [ffS_size]; exact hi) hj).1
  rw [bs_ff 9, zs_ff] at h
  omega
/-- two different bits of a blank chunk turned: bad, and not blank -/
theorem ff_bad (a b : Nat) (ha : a < 72) (hb : b < 72) (h : a ≠ b) : (decS (flipS (flipS (ffS 9) (a / 8) (a % 8)) (b / 8) (b % 8))).2 = 4 ∧ 2 ≤ zs (bs (flipS (flipS (ffS 9) (a / 8) (a % 8)) (b / 8) (b % 8))) := by
  have hz : (ffS 9).size = 9 := ffS_size 9
  have hz2 : (flipS (ffS 9) (a / 8) (a % 8)).size = 9 := by rw [flipS_size _ _ _ (by omega), hz]
  have h2 := ff_two a ha b hb h
  have e : bs (flipS (flipS (ffS 9) (a / 8) (a % 8)) (b / 8) (b % 8)) = fl (fl (ffL 9) (a / 8) (a % 8)) (b / 8) (b % 8) := by
    rw [bs_flip _ _ _ (by omega), bs_flip _ _ _ (by omega), bs_ff]
  rw [e]
  refine ⟨?_, h2⟩
  have hne : flipS (flipS (ffS 9) (a / 8) (a % 8)) (b / 8) (b % 8) ≠ ffS 9 := by
    intro e2
    rw [e2, bs_ff] at e
    rw [← e, zs_ff] at h2
    omega
  rw [← enc_ff] at hne ⊢
  rw [dec_two (ffS 8) (ffS_size 8) (a / 8) (a % 8) (b / 8) (b % 8) (by omega) (by omega) (by omega) (by omega) hne]

end Go.Proofs.YtlacmfacigfioaaDoor
