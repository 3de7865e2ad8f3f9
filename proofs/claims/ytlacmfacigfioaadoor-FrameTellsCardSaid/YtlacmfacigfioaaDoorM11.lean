/- Texts of one claim, merged: FrL5. -/
import Derived.Test.YtlacmfacigfioaaDoorM10
import Derived.Deep.QuietTactic
import Derived.BigQuiet

/- The walk of the law FrameTells. -/
namespace Go.Proofs.YtlacmfacigfioaaDoor
set_option maxRecDepth 100000
open Go.RowKit

/-- .. and the two texts -/
def CT6 (w0 : World) (b3 b5 b14 bg : Nat) (k l q e k0 k1 k2 k3 : Int) (ps bl : ByteArray) (w : World) : Prop := Blk w b3 (ta k l q e) 23 ∧ Blk w b5 (ta k0 k1 k2 k3) 38 ∧ Blk w b14 bad0 30 ∧ Tabs w ∧ Kept w0 w ∧ Blk w bg #[.string ps, .string bl] 9
theorem CT6.call {w0 w w' : World} {b3 b5 b14 bg : Nat} {k l q e k0 k1 k2 k3 : Int} {ps bl : ByteArray} (h : CT6 w0 b3 b5 b14 bg k l q e k0 k1 k2 k3 ps bl w) (hb : Below w.heap.size w w') : CT6 w0 b3 b5 b14 bg k l q e k0 k1 k2 k3 ps bl w' :=
  ⟨h.1.after hb, h.2.1.after hb, h.2.2.1.after hb, h.2.2.2.1.after hb, h.2.2.2.2.1.call hb, h.2.2.2.2.2.after hb⟩
theorem CT6.drew {w0 w : World} {b3 b5 b14 bg : Nat} {k l q e k0 k1 k2 k3 : Int} {ps bl : ByteArray} (h : CT6 w0 b3 b5 b14 bg k l q e k0 k1 k2 k3 ps bl w) : CT6 w0 b3 b5 b14 bg k l q e k0 k1 k2 k3 ps bl w.drew := h.call (Below.refl _ _).drew

set_option maxHeartbeats 4000000 in
set_option maxRecDepth 100000 in
theorem walk_FrameTells (k l q e : Int) (data : ByteArray) (k0 k1 k2 k3 : Int) (hs : data.size ≤ maxLen) (w : World) (hT : Tabs w) :
    Calls Tryd.prog 8 #[.agg (ta k l q e), .string data, .agg (ta k0 k1 k2 k3)] w fun r w' => r = .returned (.bool true) ∧ Below w.heap.size w w' := by
  have hm2 : (data.size : Int) ≤ 9223372036854775807 := by unfold maxLen at hs; omega
  have HS := Lib.hid hs
  have hw0 : CB w w.heap.size k l q e ((w.alloc (.cells (ta k l q e) 23)).alloc (.cells (ta k0 k1 k2 k3) 38)) ∧ Blk ((w.alloc (.cells (ta k l q e) 23)).alloc (.cells (ta k0 k1 k2 k3) 38)) (w.heap.size + 1) (ta k0 k1 k2 k3) 38 := by
    have hb : Below w.heap.size w ((w.alloc (.cells (ta k l q e) 23)).alloc (.cells (ta k0 k1 k2 k3) 38)) := ((Below.refl _ _).alloc (Nat.le_refl _) _).alloc (by simp) _
    have h5 := Blk.new (w.alloc (.cells (ta k l q e) 23)) (ta k0 k1 k2 k3) 38
    rw [World.size_alloc] at h5
    exact ⟨⟨(Blk.new w (ta k l q e) 23).alloc _, hT.after hb, hb⟩, h5⟩
  have HW0 := Lib.hid hw0
  clear hs hT hw0
  go_enter Tryd.func8, Tryd.ntmps8
  go_wp2_with fail
  refine (works_any _ HW0.out.1.2.1).mono ?_
  rintro r w0 ⟨rfl, hb0⟩
  have HK0 := Lib.hid (HW0.out.1.call hb0)
  have H50 := Lib.hid (HW0.out.2.after hb0)
  clear hb0 HW0
  go_wp2_with (refine wpList_load_row rfl 23 (.tmp 3) rfl w.heap.size rfl 23 (ta k l q e) (0, 0) _ HK0.out.1 Tryd.underlying23 rfl size_tag ?_)
  refine (fr_enc k l q e data _ HS.out HK0.out.2.1).mono ?_
  rintro r w1 ⟨rfl, hb1⟩
  have HK1 := Lib.hid (HK0.out.call hb1)
  have H51 := Lib.hid (H50.out.after hb1)
  clear hb1 HK0 H50
  by_cases hok : LenOk data.size ∧ MayT k l q e
  · obtain ⟨hl, hm⟩ := hok
    have he := enc_page hl hm
    have hbl := blank_len hl
    have h256 : data.size ≤ 256 := hl.2.1
    have h8 : 8 ≤ data.size := hl.1
    obtain ⟨c, hc⟩ : ∃ c, (data.size + 24) / 8 = c := ⟨_, rfl⟩
    have hc4 : 4 ≤ c := by omega
    have hc35 : c ≤ 35 := by omega
    have hfp := page_fragile (k := k) (l := l) (q := q) (e := e) data c hl hc
    have hfb := blank_fragile c hc4 hc35
    rw [hc, Nat.mul_comm] at hbl
    rw [he.1, he.2]
    obtain ⟨ps, hps⟩ : ∃ ps, pageS k l q e data = ps := ⟨_, rfl⟩
    obtain ⟨bl, hble⟩ : ∃ b, ffS (9 * c) = b := ⟨_, rfl⟩
    rw [hps] at hfp ⊢
    rw [hble] at hbl hfb
    have hpz : (ps.size : Int) / 9 = (c : Int) := by have := hfp.1; omega
    have hpz2 : (ps.size : Int) ≤ 400 := by have := hfp.1; omega
    have HFP := Lib.hid hfp
    have HFB := Lib.hid hfb
    have HBL := Lib.hid hbl
    obtain ⟨p, hp⟩ : ∃ p, first72 k1 = p := ⟨_, rfl⟩
    obtain ⟨m, hm⟩ : ∃ m, (k2 % 71).toNat = m := ⟨_, rfl⟩
    obtain ⟨qq, hqq⟩ : ∃ x, second72 k1 k2 = x := ⟨_, rfl⟩
    obtain ⟨ai, hai⟩ : ∃ x, (k0 % (c : Int)).toNat = x := ⟨_, rfl⟩
    obtain ⟨o, ho⟩ : ∃ x, (k3 % (c : Int)).toNat = x := ⟨_, rfl⟩
    have hsec := second_ne k1 k2
    rw [hp, hqq] at hsec
    have hpi : k1 % 72 = (p : Int) := by unfold first72 at hp; omega
    have hmi : k2 % 71 = (m : Int) := by omega
    have hqi : ((p : Int) + 1 + (m : Int)) % 72 = (qq : Int) := by unfold second72 at hqq; rw [hp, hm] at hqq; omega
    have hlt0 := Int.emod_lt_of_pos k0 (b := (c : Int)) (by omega)
    have hlt3 := Int.emod_lt_of_pos k3 (b := (c : Int)) (by omega)
    have hge0 := Int.emod_nonneg k0 (b := (c : Int)) (by omega)
    have hge3 := Int.emod_nonneg k3 (b := (c : Int)) (by omega)
    have hai2 : k0 % (c : Int) = (ai : Int) := by omega
    have ho2 : k3 % (c : Int) = (o : Int) := by omega
    have haic : ai < c := by omega
    have hoc : o < c := by omega
    have hp72 := hsec.1
    have hq72 := hsec.2.1
    have hm71 : m < 71 := by omega
    have HNE := Lib.hid hsec.2.2
    have HA := Lib.hid (fun w => (below_any k0 (c : Int) w (by omega) (by omega)).mono (R' := fun r w' => r = .returned (.int .i64 (ai : Int)) ∧ w' = w) (by rintro r w' ⟨rfl, rfl⟩; exact ⟨by rw [hai2], rfl⟩))
    have HO := Lib.hid (fun w => (below_any k3 (c : Int) w (by omega) (by omega)).mono (R' := fun r w' => r = .returned (.int .i64 (o : Int)) ∧ w' = w) (by rintro r w' ⟨rfl, rfl⟩; exact ⟨by rw [ho2], rfl⟩))
    have HPI := Lib.hid hpi
    have HMI := Lib.hid hmi
    have HQI := Lib.hid hqi
    have HHF : Hid (∀ x : ByteArray, x.size = 9 * c → hurtT x k1 k2 = flip2 x 0 p qq) := by
      intro x hx
      rw [hurt_flip2 k1 k2 hx hc4, hp, hqq]
    clear he hfp hfb hbl hps hble hl hm hc h256 h8 hsec hpi hmi hqi hlt0 hlt3 hge0 hge3 hai2 ho2 hp hqq hai ho
    go_wp2_with fail
    have hk0 : w1.cell? ⟨w.heap.size + 1, 0, none⟩ = some (.int .i64 k0) := H51.out.cell 0
    have hk3 : w1.cell? ⟨w.heap.size + 1, 3, none⟩ = some (.int .i64 k3) := H51.out.cell 3
    have hk1 : w1.cell? ⟨w.heap.size + 1, 1, none⟩ = some (.int .i64 k1) := H51.out.cell 1
    have hk2 : w1.cell? ⟨w.heap.size + 1, 2, none⟩ = some (.int .i64 k2) := H51.out.cell 2
    go_quiet (first
      | (go_at_call_of 19 (Value.int .i64 k0); exact Calls.quiet_of_same (HA.out _))
      | (go_at_call_of 19 (Value.int .i64 k3); exact Calls.quiet_of_same (HO.out _)))
    go_wp2_with fail
    refine (below_any k1 72 _ (by decide) (by decide)).mono ?_
    rintro r w2 ⟨rfl, rfl⟩
    rw [HPI.out]
    go_wp2_with fail
    refine (below_any k2 71 _ (by decide) (by decide)).mono ?_
    rintro r w2 ⟨rfl, rfl⟩
    rw [HMI.out]
    go_wp2_with fail
    refine (below_any ((p : Int) + 1 + (m : Int)) 72 _ (by decide) (by decide)).mono ?_
    rintro r w2 ⟨rfl, rfl⟩
    rw [HQI.out]
    clear hk0 hk1 hk2 hk3
    have HKd : Hid (CB w w.heap.size k l q e (w1.drewN nq)) := ⟨HK1.out.1.drewN, HK1.out.2.1.after ⟨rfl, rfl, rfl, Nat.le_refl _, fun _ _ => rfl⟩, HK1.out.2.2.call ⟨rfl, rfl, rfl, Nat.le_refl _, fun _ _ => rfl⟩⟩
    have H5d : Hid (Blk (w1.drewN nq) (w.heap.size + 1) (ta k0 k1 k2 k3) 38) := H51.out.drewN
    generalize w1.drewN nq = w2 at HKd H5d ⊢
    go_wp2_with fail
    have hal : Below w2.heap.size w2 (w2.alloc (.cells bad0 30)) := (Below.refl _ _).alloc (Nat.le_refl _) _
    have hCT : CT5 w w.heap.size (w.heap.size + 1) w2.heap.size k l q e k0 k1 k2 k3 (w2.alloc (.cells bad0 30)) := ⟨HKd.out.1.alloc _, H5d.out.alloc _, Blk.new _ _ _, HKd.out.2.1.after hal, HKd.out.2.2.call hal⟩
    clear hal
    change Calls _ _ _ (w2.alloc (.cells bad0 30)) _
    generalize (w2.alloc (.cells bad0 30)) = w3 at hCT ⊢
    generalize w2.heap.size = b14 at hCT ⊢
    refine (fr_blank (data.size : Int) _).mono ?_
    rintro r w4 ⟨rfl, hb4⟩
    rw [HBL.out]
    have HCT := Lib.hid (hCT.call hb4)
    clear hb4 hCT HKd H5d HBL HK1 H51
    go_wp2_with fail
    have hbx0 := Blk.new w4 #[.string ps, .string bl] 9
    have hct0 : CT5 w w.heap.size (w.heap.size + 1) b14 k l q e k0 k1 k2 k3 (w4.alloc (.cells #[.string ps, .string bl] 9)) := HCT.out.call ((Below.refl _ _).alloc (Nat.le_refl _) _)
    generalize w4.alloc (.cells #[.string ps, .string bl] 9) = w5 at hbx0 hct0 ⊢
    generalize w4.heap.size = bg at hbx0 hct0 ⊢
    have HB0 : Hid (CT6 w w.heap.size (w.heap.size + 1) b14 bg k l q e k0 k1 k2 k3 ps bl w5) := ⟨hct0.1, hct0.2.1, hct0.2.2.1, hct0.2.2.2.1, hct0.2.2.2.2, hbx0⟩
    clear hbx0 hct0 HCT
    go_loopw [58] (fun iv wr => ∃ j : Nat, j ≤ 2 ∧ iv = .int .i64 j ∧ CT6 w w.heap.size (w.heap.size + 1) b14 bg k l q e k0 k1 k2 k3 ps bl wr) (fun i _ => 2 - (intOf i).toNat)
    case atStart => exact ⟨0, by decide, rfl, HB0.out⟩
    case round =>
      obtain ⟨j, hj, rfl, hct⟩ := hrel
      have hbx := hct.2.2.2.2.2
      clear HB0
      by_cases hlt : j < 2
      · obtain ⟨x, hxc, hfr⟩ : ∃ x, wr.cell? ⟨bg, j, none⟩ = some (.string x) ∧ Fragile x c := by
          rcases (show j = 0 ∨ j = 1 by omega) with rfl | rfl
          · exact ⟨ps, hbx.cell 0, HFP.out⟩
          · exact ⟨bl, hbx.cell 1, HFB.out⟩
        have hxz := hfr.1
        have hf2 := hfr.2 ai p qq haic hp72 hq72 HNE.out
        have hf0 := (hfr.2 0 p qq (by omega) hp72 hq72 HNE.out).1
        have hhx := HHF.out x hxz
        obtain ⟨y, hy⟩ : ∃ y, flip2 x ai p qq = y := ⟨_, rfl⟩
        have hyz : y.size = 9 * c := by rw [← hy]; exact flip2_size x c ai p qq hxz haic hp72 hq72
        have hhz : (flip2 x 0 p qq).size = 9 * c := flip2_size x c 0 p qq hxz (by omega) hp72 hq72
        obtain ⟨x1, hx1⟩ : ∃ y, flipS x (9 * ai + p / 8) (p % 8) = y := ⟨_, rfl⟩
        have hx1z : x1.size = 9 * c := by rw [← hx1, flipS_size _ _ _ (by omega), hxz]
        have hy1 : flipS x1 (9 * ai + qq / 8) (qq % 8) = y := by rw [← hx1, ← hy]; rfl
        obtain ⟨h, hh⟩ : ∃ y, flip2 x 0 p qq = y := ⟨_, rfl⟩
        rw [hh] at hf0 hhx hhz
        rw [hy] at hf2
        have HX1 := Lib.hid hx1
        have HY1 := Lib.hid hy1
        have HXZ := Lib.hid hxz
        have HX1Z := Lib.hid hx1z
        have HYZ := Lib.hid hyz
        have HHZ := Lib.hid hhz
        have HP1 := Lib.hid hf2.1
        have HF2 := Lib.hid hf2.2
        have HP3 := Lib.hid hf0
        have HH := Lib.hid hhx
        have HCTR := Lib.hid hct
        have HX : Hid (x.size ≤ 1000) := by show x.size ≤ 1000; omega
        have HS1 : Hid (y.size ≤ 400) := by show y.size ≤ 400; omega
        have HS3 : Hid (h.size ≤ 400) := by show h.size ≤ 400; omega
        have HY9 : Hid (9 ≤ y.size) := by show 9 ≤ y.size; omega
        have HAM : Hid (∀ t : ByteArray, t.size = 9 * c → (ai : Int) % (t.size / 9 : Nat) = (ai : Int)) := by
          intro t ht
          rw [show t.size / 9 = c by omega]
          exact Int.emod_eq_of_lt (by omega) (by omega)
        have HOM : Hid ((o : Int) % (y.size / 9 : Nat) = (o : Int)) := by
          show (o : Int) % (y.size / 9 : Nat) = (o : Int)
          rw [show y.size / 9 = c by omega]
          exact Int.emod_eq_of_lt (by omega) (by omega)
        clear hct hbx hfr hxz hf2 hf0 hhx hy hyz hhz hx1 hx1z hy1 hh
        go_wp2_with fail
        refine (turned_any x (ai : Int) (p : Int) ai p _ (by have := HXZ.out; omega) (by have := HXZ.out; omega) (HAM.out x HXZ.out) (by omega)).mono ?_
        rintro r w6 ⟨rfl, hb6⟩
        rw [HX1.out]
        have HC6 := Lib.hid (HCTR.out.call hb6)
        clear hb6 hxc HCTR
        go_wp2_with fail
        refine (turned_any x1 (ai : Int) (qq : Int) ai qq _ (by have := HX1Z.out; omega) (by have := HX1Z.out; omega) (HAM.out x1 HX1Z.out) (by omega)).mono ?_
        rintro r w7 ⟨rfl, hb7⟩
        rw [HY1.out]
        have HC7 := Lib.hid (HC6.out.call hb7)
        clear hb7 HC6
        go_wp2_with fail
        rename_i K0 hK0
        by_cases hoa : o = ai
        · subst hoa
          refine wp_region_list3 (SV (vsFTE (w.heap.size + 1) o o k1 k2 x y h) []) (BaseFTE w.heap.size (w.heap.size + 1) b14 bg j o o p qq c m k l q e k0 k1 k2 k3 data ps bl x y) (CT6 w w.heap.size (w.heap.size + 1) b14 bg k l q e k0 k1 k2 k3 ps bl) Goes (RV (vsFTE (w.heap.size + 1) o o k1 k2 x y h) (fun _ _ _ => False)) rfl (by kernel_rfl) (RV.ext no_special5) ?_ HC7.out.drew (BaseFTE.of _ (by kernel_rfl)) ?_ ?_
          · exact ⟨BaseFTE.put69, BaseFTE.put70, BaseFTE.put71, BaseFTE.put72, BaseFTE.put73, BaseFTE.put74, BaseFTE.put75, BaseFTE.put76, BaseFTE.put77, BaseFTE.put78, BaseFTE.put79, BaseFTE.put80, BaseFTE.put81, BaseFTE.put82, BaseFTE.put83, BaseFTE.put84, BaseFTE.put85, BaseFTE.put86, BaseFTE.put87, BaseFTE.put88, BaseFTE.put89, BaseFTE.put90, BaseFTE.put91, BaseFTE.put92, BaseFTE.put93, BaseFTE.put94, BaseFTE.put95, BaseFTE.put96, BaseFTE.put97, BaseFTE.put98, trivial⟩
          · refine ⟨?_, ?_, ?_, ?_, ?_, ?_, ?_, ?_, ?_, ?_, ?_, ?_, ?_, ?_, ?_, ?_, ?_, ?_, ?_, ?_, ?_, ?_, ?_, ?_, ?_, ?_, ?_, ?_, ?_, ?_, trivial⟩
            all_goals
              intro a w' hC hB hR
              obtain ⟨u, rfl⟩ := hB
              have HC := Lib.hid hC
              clear hC
              clear hK0
            · clear hR
              refine if_yes (by kernel_rfl) ?_
              unfold Oper.wp
              go_simp
              exact ⟨.string y, rfl, HC.out, Below.refl _ _, rfl⟩
            · have h69 : u 69 = .string y := hR ⟨0, .data⟩ (by simp) rfl
              clear hR
              simp only [h69]
              clear h69
              refine if_yes (by kernel_rfl) ?_
              unfold Oper.wp
              go_simp
              refine (fr_dec y _ HS1.out HC.out.2.2.2.1).mono ?_
              rintro r w2 ⟨rfl, hb2⟩
              rw [HP1.out]
              exact ⟨.agg bad0, rfl, HC.out.call hb2, hb2, rfl⟩
            · clear hR
              refine if_yes (by kernel_rfl) ?_
              exact wp_load_row 30 (.tmp 14) rfl _ rfl 30 _ (0, 0) _ HC.out.2.2.1 Tryd.underlying30 rfl size_page ⟨.agg bad0, rfl, HC.out, Below.refl _ _, rfl⟩
            · have h70 : u 70 = .agg bad0 := hR ⟨1, .data⟩ (by simp) rfl
              have h71 : u 71 = .agg bad0 := hR ⟨2, .data⟩ (by simp) rfl
              clear hR
              simp only [h70, h71]
              clear h70 h71
              refine if_yes (by kernel_rfl) ?_
              refine wp_neq_page (.tmp 70) (.tmp 71) rfl 4 0 0 0 0 4 0 0 0 0 _ _ rfl rfl ?_
              rw [sameP_self]
              exact ⟨.bool false, rfl, HC.out, Below.refl _ _, rfl⟩
            · have h72 : u 72 = .bool false := hR ⟨3, .data⟩ (by simp) rfl
              clear hR
              simp only [h72]
              clear h72
              refine if_yes (by kernel_rfl) ?_
              unfold Oper.wp
              go_simp
              exact ⟨.bool false, rfl, HC.out, Below.refl _ _, rfl⟩
            · have g73 : u 73 = .bool false := hR ⟨4, .guard⟩ (by simp) rfl
              clear hR
              simp only [g73]
              clear g73
              refine if_yes (by kernel_rfl) ?_
              unfold Oper.wp
              go_simp
              exact ⟨.int .i64 (o : Nat), rfl, HC.out, Below.refl _ _, rfl⟩
            · have g73 : u 73 = .bool false := hR ⟨4, .guard⟩ (by simp) rfl
              clear hR
              simp only [g73]
              clear g73
              refine if_yes (by kernel_rfl) ?_
              unfold Oper.wp
              go_simp
              exact ⟨.int .i64 (o : Nat), rfl, HC.out, Below.refl _ _, rfl⟩
            · have g73 : u 73 = .bool false := hR ⟨4, .guard⟩ (by simp) rfl
              have h74 : u 74 = .int .i64 (o : Nat) := hR ⟨5, .data⟩ (by simp) rfl
              have h75 : u 75 = .int .i64 (o : Nat) := hR ⟨6, .data⟩ (by simp) rfl
              clear hR
              simp only [g73, h74, h75]
              clear g73 h74 h75
              refine if_yes (by kernel_rfl) ?_
              unfold Oper.wp
              go_simp
              exact ⟨.bool false, rfl, HC.out, Below.refl _ _, rfl⟩
            · have g73 : u 73 = .bool false := hR ⟨4, .guard⟩ (by simp) rfl
              have h76 : u 76 = .bool false := hR ⟨7, .data⟩ (by simp) rfl
              clear hR
              simp only [g73, h76]
              clear g73 h76
              refine if_yes (by kernel_rfl) ?_
              unfold Oper.wp
              go_simp
              exact ⟨.bool false, rfl, HC.out, Below.refl _ _, rfl⟩
            · have g77 : u 77 = .bool false := hR ⟨8, .guard⟩ (by simp) rfl
              clear hR
              simp only [g77]
              clear g77
              refine if_no (by kernel_rfl) ?_
              exact ⟨undef, rfl, HC.out, Below.refl _ _, rfl⟩
            · have g77 : u 77 = .bool false := hR ⟨8, .guard⟩ (by simp) rfl
              clear hR
              simp only [g77]
              clear g77
              refine if_no (by kernel_rfl) ?_
              exact ⟨undef, rfl, HC.out, Below.refl _ _, rfl⟩
            · have g77 : u 77 = .bool false := hR ⟨8, .guard⟩ (by simp) rfl
              clear hR
              simp only [g77]
              clear g77
              refine if_no (by kernel_rfl) ?_
              exact ⟨undef, rfl, HC.out, Below.refl _ _, rfl⟩
            · have g77 : u 77 = .bool false := hR ⟨8, .guard⟩ (by simp) rfl
              have h80 : u 80 = undef := hR ⟨11, .data⟩ (by simp) rfl
              have hc1 : w'.cell? ⟨w.heap.size + 1, 1, none⟩ = some (.int .i64 k1) := HC.out.2.1.cell 1
              clear hR
              simp only [g77, h80]
              clear g77 h80
              refine if_no (by kernel_rfl) ?_
              exact ⟨undef, rfl, HC.out, Below.refl _ _, rfl⟩
            · have g77 : u 77 = .bool false := hR ⟨8, .guard⟩ (by simp) rfl
              have h78 : u 78 = undef := hR ⟨9, .data⟩ (by simp) rfl
              have h79 : u 79 = undef := hR ⟨10, .data⟩ (by simp) rfl
              have h81 : u 81 = undef := hR ⟨12, .data⟩ (by simp) rfl
              clear hR
              simp only [g77, h78, h79, h81]
              clear g77 h78 h79 h81
              refine if_no (by kernel_rfl) ?_
              exact ⟨undef, rfl, HC.out, Below.refl _ _, rfl⟩
            · have g77 : u 77 = .bool false := hR ⟨8, .guard⟩ (by simp) rfl
              have h82 : u 82 = undef := hR ⟨13, .data⟩ (by simp) rfl
              clear hR
              simp only [g77, h82]
              clear g77 h82
              refine if_no (by kernel_rfl) ?_
              exact ⟨undef, rfl, HC.out, Below.refl _ _, rfl⟩
            · have g77 : u 77 = .bool false := hR ⟨8, .guard⟩ (by simp) rfl
              clear hR
              simp only [g77]
              clear g77
              refine if_no (by kernel_rfl) ?_
              exact ⟨undef, rfl, HC.out, Below.refl _ _, rfl⟩
            · have g77 : u 77 = .bool false := hR ⟨8, .guard⟩ (by simp) rfl
              have h83 : u 83 = undef := hR ⟨14, .data⟩ (by simp) rfl
              have h84 : u 84 = undef := hR ⟨15, .data⟩ (by simp) rfl
              clear hR
              simp only [g77, h83, h84]
              clear g77 h83 h84
              refine if_no (by kernel_rfl) ?_
              exact ⟨undef, rfl, HC.out, Below.refl _ _, rfl⟩
            · have g73 : u 73 = .bool false := hR ⟨4, .guard⟩ (by simp) rfl
              have h77 : u 77 = .bool false := hR ⟨8, .data⟩ (by simp) rfl
              have h85 : u 85 = undef := hR ⟨16, .data⟩ (by simp) rfl
              clear hR
              simp only [g73, h77, h85]
              clear g73 h77 h85
              refine if_yes (by kernel_rfl) ?_
              unfold Oper.wp
              go_simp
              exact ⟨.bool false, rfl, HC.out, Below.refl _ _, rfl⟩
            · have h73 : u 73 = .bool false := hR ⟨4, .data⟩ (by simp) rfl
              have h86 : u 86 = .bool false := hR ⟨17, .data⟩ (by simp) rfl
              clear hR
              simp only [h73, h86]
              clear h73 h86
              refine if_yes (by kernel_rfl) ?_
              unfold Oper.wp
              go_simp
              exact ⟨.bool false, rfl, HC.out, Below.refl _ _, rfl⟩
            · have h87 : u 87 = .bool false := hR ⟨18, .data⟩ (by simp) rfl
              clear hR
              simp only [h87]
              clear h87
              refine if_yes (by kernel_rfl) ?_
              unfold Oper.wp
              go_simp
              exact ⟨.bool false, rfl, HC.out, Below.refl _ _, rfl⟩
            · have g88 : u 88 = .bool false := hR ⟨19, .guard⟩ (by simp) rfl
              clear hR
              simp only [g88]
              clear g88
              refine if_yes (by kernel_rfl) ?_
              unfold Oper.wp
              go_simp
              exact ⟨.string x, rfl, HC.out, Below.refl _ _, rfl⟩
            · have g88 : u 88 = .bool false := hR ⟨19, .guard⟩ (by simp) rfl
              clear hR
              simp only [g88]
              clear g88
              refine if_yes (by kernel_rfl) ?_
              unfold Oper.wp
              go_simp
              exact ⟨.pointer (some ⟨w.heap.size + 1, 1, none⟩), rfl, HC.out, Below.refl _ _, rfl⟩
            · have g88 : u 88 = .bool false := hR ⟨19, .guard⟩ (by simp) rfl
              have h90 : u 90 = .pointer (some ⟨w.heap.size + 1, 1, none⟩) := hR ⟨21, .data⟩ (by simp) rfl
              have hc1 : w'.cell? ⟨w.heap.size + 1, 1, none⟩ = some (.int .i64 k1) := HC.out.2.1.cell 1
              clear hR
              simp only [g88, h90]
              clear g88 h90
              refine if_yes (by kernel_rfl) ?_
              unfold Oper.wp
              go_simp
              exact ⟨.int .i64 k1, rfl, HC.out, Below.refl _ _, rfl⟩
            · have g88 : u 88 = .bool false := hR ⟨19, .guard⟩ (by simp) rfl
              clear hR
              simp only [g88]
              clear g88
              refine if_yes (by kernel_rfl) ?_
              unfold Oper.wp
              go_simp
              exact ⟨.pointer (some ⟨w.heap.size + 1, 2, none⟩), rfl, HC.out, Below.refl _ _, rfl⟩
            · have g88 : u 88 = .bool false := hR ⟨19, .guard⟩ (by simp) rfl
              have h92 : u 92 = .pointer (some ⟨w.heap.size + 1, 2, none⟩) := hR ⟨23, .data⟩ (by simp) rfl
              have hc2 : w'.cell? ⟨w.heap.size + 1, 2, none⟩ = some (.int .i64 k2) := HC.out.2.1.cell 2
              clear hR
              simp only [g88, h92]
              clear g88 h92
              refine if_yes (by kernel_rfl) ?_
              unfold Oper.wp
              go_simp
              exact ⟨.int .i64 k2, rfl, HC.out, Below.refl _ _, rfl⟩
            · have g88 : u 88 = .bool false := hR ⟨19, .guard⟩ (by simp) rfl
              have h89 : u 89 = .string x := hR ⟨20, .data⟩ (by simp) rfl
              have h91 : u 91 = .int .i64 k1 := hR ⟨22, .data⟩ (by simp) rfl
              have h93 : u 93 = .int .i64 k2 := hR ⟨24, .data⟩ (by simp) rfl
              clear hR
              simp only [g88, h89, h91, h93]
              clear g88 h89 h91 h93
              refine if_yes (by kernel_rfl) ?_
              unfold Oper.wp
              go_simp
              refine (fr_hurt x k1 k2 _ HX.out).mono ?_
              rintro r w2 ⟨rfl, hb2⟩
              rw [HH.out]
              exact ⟨.string h, rfl, HC.out.call hb2, hb2, rfl⟩
            · have g88 : u 88 = .bool false := hR ⟨19, .guard⟩ (by simp) rfl
              have h94 : u 94 = .string h := hR ⟨25, .data⟩ (by simp) rfl
              clear hR
              simp only [g88, h94]
              clear g88 h94
              refine if_yes (by kernel_rfl) ?_
              unfold Oper.wp
              go_simp
              refine (fr_dec h _ HS3.out HC.out.2.2.2.1).mono ?_
              rintro r w2 ⟨rfl, hb2⟩
              rw [HP3.out]
              exact ⟨.agg bad0, rfl, HC.out.call hb2, hb2, rfl⟩
            · have g88 : u 88 = .bool false := hR ⟨19, .guard⟩ (by simp) rfl
              clear hR
              simp only [g88]
              clear g88
              refine if_yes (by kernel_rfl) ?_
              exact wp_load_row 30 (.tmp 14) rfl _ rfl 30 _ (0, 0) _ HC.out.2.2.1 Tryd.underlying30 rfl size_page ⟨.agg bad0, rfl, HC.out, Below.refl _ _, rfl⟩
            · have g88 : u 88 = .bool false := hR ⟨19, .guard⟩ (by simp) rfl
              have h95 : u 95 = .agg bad0 := hR ⟨26, .data⟩ (by simp) rfl
              have h96 : u 96 = .agg bad0 := hR ⟨27, .data⟩ (by simp) rfl
              clear hR
              simp only [g88, h95, h96]
              clear g88 h95 h96
              refine if_yes (by kernel_rfl) ?_
              refine wp_neq_page (.tmp 95) (.tmp 96) rfl 4 0 0 0 0 4 0 0 0 0 _ _ rfl rfl ?_
              rw [sameP_self]
              exact ⟨.bool false, rfl, HC.out, Below.refl _ _, rfl⟩
            · have h88 : u 88 = .bool false := hR ⟨19, .data⟩ (by simp) rfl
              have h97 : u 97 = .bool false := hR ⟨28, .data⟩ (by simp) rfl
              clear hR
              simp only [h88, h97]
              clear h88 h97
              refine if_yes (by kernel_rfl) ?_
              unfold Oper.wp
              go_simp
              exact ⟨.bool false, rfl, HC.out, Below.refl _ _, rfl⟩
          · intro a w' hC hB hR
            have h98 : a.tmps.getD 98 undef = .bool false := hR 29 (by decide)
            clear hR
            have HC9 := Lib.hid hC
            clear hC
            obtain ⟨u, rfl⟩ := hB
            have h98 : u 98 = .bool false := h98
            simp only [h98]
            clear h98
            go_wp2_with fail
            go_roundw
            case rel => exact ⟨j + 1, by omega, by go_num, HC9.out⟩
            case measure => simp [intOf]; omega
        · have HOA : Hid ((¬ o = ai) ∧ ((o : Int) == (ai : Int)) = false ∧ ¬ (o : Int) = (ai : Int)) := by
            show (¬ o = ai) ∧ ((o : Int) == (ai : Int)) = false ∧ ¬ (o : Int) = (ai : Int)
            refine ⟨hoa, ?_, by omega⟩
            simp; omega
          obtain ⟨y3, hy3⟩ : ∃ t, flipS y (9 * o + p / 8) (p % 8) = t := ⟨_, rfl⟩
          have h2 := HF2.out o p hoc hoa hp72
          have hz3 : (flipS y (9 * o + p / 8) (p % 8)).size = 9 * c := by rw [flipS_size _ _ _ (by have := HYZ.out; omega), HYZ.out]
          rw [hy3] at h2 hz3
          have HY3 := Lib.hid hy3
          have HP2 := Lib.hid h2
          have HS2 : Hid (y3.size ≤ 400) := by show y3.size ≤ 400; omega
          have HKP : Hid (k1 % 72 = (p : Int)) := HPI.out
          clear hy3 h2 hz3 hoa
          refine wp_region_list3 (SV (vsFTD (w.heap.size + 1) o ai k1 k2 x y y3 h) []) (BaseFTD w.heap.size (w.heap.size + 1) b14 bg j o ai p qq c m k l q e k0 k1 k2 k3 data ps bl x y) (CT6 w w.heap.size (w.heap.size + 1) b14 bg k l q e k0 k1 k2 k3 ps bl) Goes (RV (vsFTD (w.heap.size + 1) o ai k1 k2 x y y3 h) (fun _ _ _ => False)) rfl (by kernel_rfl) (RV.ext no_special5) ?_ HC7.out.drew (BaseFTD.of _ (by kernel_rfl)) ?_ ?_
          · exact ⟨BaseFTD.put69, BaseFTD.put70, BaseFTD.put71, BaseFTD.put72, BaseFTD.put73, BaseFTD.put74, BaseFTD.put75, BaseFTD.put76, BaseFTD.put77, BaseFTD.put78, BaseFTD.put79, BaseFTD.put80, BaseFTD.put81, BaseFTD.put82, BaseFTD.put83, BaseFTD.put84, BaseFTD.put85, BaseFTD.put86, BaseFTD.put87, BaseFTD.put88, BaseFTD.put89, BaseFTD.put90, BaseFTD.put91, BaseFTD.put92, BaseFTD.put93, BaseFTD.put94, BaseFTD.put95, BaseFTD.put96, BaseFTD.put97, BaseFTD.put98, trivial⟩
          · refine ⟨?_, ?_, ?_, ?_, ?_, ?_, ?_, ?_, ?_, ?_, ?_, ?_, ?_, ?_, ?_, ?_, ?_, ?_, ?_, ?_, ?_, ?_, ?_, ?_, ?_, ?_, ?_, ?_, ?_, ?_, trivial⟩
            all_goals
              intro a w' hC hB hR
              obtain ⟨u, rfl⟩ := hB
              have HC := Lib.hid hC
              clear hC
              clear hK0
            · clear hR
              refine if_yes (by kernel_rfl) ?_
              unfold Oper.wp
              go_simp
              exact ⟨.string y, rfl, HC.out, Below.refl _ _, rfl⟩
            · have h69 : u 69 = .string y := hR ⟨0, .data⟩ (by simp) rfl
              clear hR
              simp only [h69]
              clear h69
              refine if_yes (by kernel_rfl) ?_
              unfold Oper.wp
              go_simp
              refine (fr_dec y _ HS1.out HC.out.2.2.2.1).mono ?_
              rintro r w2 ⟨rfl, hb2⟩
              rw [HP1.out]
              exact ⟨.agg bad0, rfl, HC.out.call hb2, hb2, rfl⟩
            · clear hR
              refine if_yes (by kernel_rfl) ?_
              exact wp_load_row 30 (.tmp 14) rfl _ rfl 30 _ (0, 0) _ HC.out.2.2.1 Tryd.underlying30 rfl size_page ⟨.agg bad0, rfl, HC.out, Below.refl _ _, rfl⟩
            · have h70 : u 70 = .agg bad0 := hR ⟨1, .data⟩ (by simp) rfl
              have h71 : u 71 = .agg bad0 := hR ⟨2, .data⟩ (by simp) rfl
              clear hR
              simp only [h70, h71]
              clear h70 h71
              refine if_yes (by kernel_rfl) ?_
              refine wp_neq_page (.tmp 70) (.tmp 71) rfl 4 0 0 0 0 4 0 0 0 0 _ _ rfl rfl ?_
              rw [sameP_self]
              exact ⟨.bool false, rfl, HC.out, Below.refl _ _, rfl⟩
            · have h72 : u 72 = .bool false := hR ⟨3, .data⟩ (by simp) rfl
              clear hR
              simp only [h72]
              clear h72
              refine if_yes (by kernel_rfl) ?_
              unfold Oper.wp
              go_simp
              exact ⟨.bool false, rfl, HC.out, Below.refl _ _, rfl⟩
            · have g73 : u 73 = .bool false := hR ⟨4, .guard⟩ (by simp) rfl
              clear hR
              simp only [g73]
              clear g73
              refine if_yes (by kernel_rfl) ?_
              unfold Oper.wp
              go_simp
              exact ⟨.int .i64 (o : Nat), rfl, HC.out, Below.refl _ _, rfl⟩
            · have g73 : u 73 = .bool false := hR ⟨4, .guard⟩ (by simp) rfl
              clear hR
              simp only [g73]
              clear g73
              refine if_yes (by kernel_rfl) ?_
              unfold Oper.wp
              go_simp
              exact ⟨.int .i64 (ai : Nat), rfl, HC.out, Below.refl _ _, rfl⟩
            · have g73 : u 73 = .bool false := hR ⟨4, .guard⟩ (by simp) rfl
              have h74 : u 74 = .int .i64 (o : Nat) := hR ⟨5, .data⟩ (by simp) rfl
              have h75 : u 75 = .int .i64 (ai : Nat) := hR ⟨6, .data⟩ (by simp) rfl
              obtain ⟨hoa1, hoa2, hoa3⟩ := HOA.out
              clear hR
              simp only [g73, h74, h75]
              clear g73 h74 h75
              refine if_yes (by kernel_rfl) ?_
              unfold Oper.wp
              go_simp
              exact ⟨_, rfl, HC.out, Below.refl _ _, congrArg Value.bool (by simp; omega)⟩
            · have g73 : u 73 = .bool false := hR ⟨4, .guard⟩ (by simp) rfl
              have h76 : u 76 = .bool true := hR ⟨7, .data⟩ (by simp) rfl
              clear hR
              simp only [g73, h76]
              clear g73 h76
              refine if_yes (by kernel_rfl) ?_
              unfold Oper.wp
              go_simp
              exact ⟨.bool true, rfl, HC.out, Below.refl _ _, rfl⟩
            · have g77 : u 77 = .bool true := hR ⟨8, .guard⟩ (by simp) rfl
              clear hR
              simp only [g77]
              clear g77
              refine if_yes (by kernel_rfl) ?_
              unfold Oper.wp
              go_simp
              exact ⟨.string y, rfl, HC.out, Below.refl _ _, rfl⟩
            · have g77 : u 77 = .bool true := hR ⟨8, .guard⟩ (by simp) rfl
              clear hR
              simp only [g77]
              clear g77
              refine if_yes (by kernel_rfl) ?_
              unfold Oper.wp
              go_simp
              exact ⟨.int .i64 (o : Nat), rfl, HC.out, Below.refl _ _, rfl⟩
            · have g77 : u 77 = .bool true := hR ⟨8, .guard⟩ (by simp) rfl
              clear hR
              simp only [g77]
              clear g77
              refine if_yes (by kernel_rfl) ?_
              unfold Oper.wp
              go_simp
              exact ⟨.pointer (some ⟨w.heap.size + 1, 1, none⟩), rfl, HC.out, Below.refl _ _, rfl⟩
            · have g77 : u 77 = .bool true := hR ⟨8, .guard⟩ (by simp) rfl
              have h80 : u 80 = .pointer (some ⟨w.heap.size + 1, 1, none⟩) := hR ⟨11, .data⟩ (by simp) rfl
              have hc1 : w'.cell? ⟨w.heap.size + 1, 1, none⟩ = some (.int .i64 k1) := HC.out.2.1.cell 1
              clear hR
              simp only [g77, h80]
              clear g77 h80
              refine if_yes (by kernel_rfl) ?_
              unfold Oper.wp
              go_simp
              exact ⟨.int .i64 k1, rfl, HC.out, Below.refl _ _, rfl⟩
            · have g77 : u 77 = .bool true := hR ⟨8, .guard⟩ (by simp) rfl
              have h78 : u 78 = .string y := hR ⟨9, .data⟩ (by simp) rfl
              have h79 : u 79 = .int .i64 (o : Nat) := hR ⟨10, .data⟩ (by simp) rfl
              have h81 : u 81 = .int .i64 k1 := hR ⟨12, .data⟩ (by simp) rfl
              clear hR
              simp only [g77, h78, h79, h81]
              clear g77 h78 h79 h81
              refine if_yes (by kernel_rfl) ?_
              unfold Oper.wp
              go_simp
              refine (turned_any y (o : Int) k1 o p _ HY9.out HS1.out HOM.out HKP.out).mono ?_
              rintro r w2 ⟨rfl, hb2⟩
              rw [HY3.out]
              exact ⟨.string y3, rfl, HC.out.call hb2, hb2, rfl⟩
            · have g77 : u 77 = .bool true := hR ⟨8, .guard⟩ (by simp) rfl
              have h82 : u 82 = .string y3 := hR ⟨13, .data⟩ (by simp) rfl
              clear hR
              simp only [g77, h82]
              clear g77 h82
              refine if_yes (by kernel_rfl) ?_
              unfold Oper.wp
              go_simp
              refine (fr_dec y3 _ HS2.out HC.out.2.2.2.1).mono ?_
              rintro r w2 ⟨rfl, hb2⟩
              rw [HP2.out]
              exact ⟨.agg bad0, rfl, HC.out.call hb2, hb2, rfl⟩
            · have g77 : u 77 = .bool true := hR ⟨8, .guard⟩ (by simp) rfl
              clear hR
              simp only [g77]
              clear g77
              refine if_yes (by kernel_rfl) ?_
              exact wp_load_row 30 (.tmp 14) rfl _ rfl 30 _ (0, 0) _ HC.out.2.2.1 Tryd.underlying30 rfl size_page ⟨.agg bad0, rfl, HC.out, Below.refl _ _, rfl⟩
            · have g77 : u 77 = .bool true := hR ⟨8, .guard⟩ (by simp) rfl
              have h83 : u 83 = .agg bad0 := hR ⟨14, .data⟩ (by simp) rfl
              have h84 : u 84 = .agg bad0 := hR ⟨15, .data⟩ (by simp) rfl
              clear hR
              simp only [g77, h83, h84]
              clear g77 h83 h84
              refine if_yes (by kernel_rfl) ?_
              refine wp_neq_page (.tmp 83) (.tmp 84) rfl 4 0 0 0 0 4 0 0 0 0 _ _ rfl rfl ?_
              rw [sameP_self]
              exact ⟨.bool false, rfl, HC.out, Below.refl _ _, rfl⟩
            · have g73 : u 73 = .bool false := hR ⟨4, .guard⟩ (by simp) rfl
              have h77 : u 77 = .bool true := hR ⟨8, .data⟩ (by simp) rfl
              have h85 : u 85 = .bool false := hR ⟨16, .data⟩ (by simp) rfl
              clear hR
              simp only [g73, h77, h85]
              clear g73 h77 h85
              refine if_yes (by kernel_rfl) ?_
              unfold Oper.wp
              go_simp
              exact ⟨.bool false, rfl, HC.out, Below.refl _ _, rfl⟩
            · have h73 : u 73 = .bool false := hR ⟨4, .data⟩ (by simp) rfl
              have h86 : u 86 = .bool false := hR ⟨17, .data⟩ (by simp) rfl
              clear hR
              simp only [h73, h86]
              clear h73 h86
              refine if_yes (by kernel_rfl) ?_
              unfold Oper.wp
              go_simp
              exact ⟨.bool false, rfl, HC.out, Below.refl _ _, rfl⟩
            · have h87 : u 87 = .bool false := hR ⟨18, .data⟩ (by simp) rfl
              clear hR
              simp only [h87]
              clear h87
              refine if_yes (by kernel_rfl) ?_
              unfold Oper.wp
              go_simp
              exact ⟨.bool false, rfl, HC.out, Below.refl _ _, rfl⟩
            · have g88 : u 88 = .bool false := hR ⟨19, .guard⟩ (by simp) rfl
              clear hR
              simp only [g88]
              clear g88
              refine if_yes (by kernel_rfl) ?_
              unfold Oper.wp
              go_simp
              exact ⟨.string x, rfl, HC.out, Below.refl _ _, rfl⟩
            · have g88 : u 88 = .bool false := hR ⟨19, .guard⟩ (by simp) rfl
              clear hR
              simp only [g88]
              clear g88
              refine if_yes (by kernel_rfl) ?_
              unfold Oper.wp
              go_simp
              exact ⟨.pointer (some ⟨w.heap.size + 1, 1, none⟩), rfl, HC.out, Below.refl _ _, rfl⟩
            · have g88 : u 88 = .bool false := hR ⟨19, .guard⟩ (by simp) rfl
              have h90 : u 90 = .pointer (some ⟨w.heap.size + 1, 1, none⟩) := hR ⟨21, .data⟩ (by simp) rfl
              have hc1 : w'.cell? ⟨w.heap.size + 1, 1, none⟩ = some (.int .i64 k1) := HC.out.2.1.cell 1
              clear hR
              simp only [g88, h90]
              clear g88 h90
              refine if_yes (by kernel_rfl) ?_
              unfold Oper.wp
              go_simp
              exact ⟨.int .i64 k1, rfl, HC.out, Below.refl _ _, rfl⟩
            · have g88 : u 88 = .bool false := hR ⟨19, .guard⟩ (by simp) rfl
              clear hR
              simp only [g88]
              clear g88
              refine if_yes (by kernel_rfl) ?_
              unfold Oper.wp
              go_simp
              exact ⟨.pointer (some ⟨w.heap.size + 1, 2, none⟩), rfl, HC.out, Below.refl _ _, rfl⟩
            · have g88 : u 88 = .bool false := hR ⟨19, .guard⟩ (by simp) rfl
              have h92 : u 92 = .pointer (some ⟨w.heap.size + 1, 2, none⟩) := hR ⟨23, .data⟩ (by simp) rfl
              have hc2 : w'.cell? ⟨w.heap.size + 1, 2, none⟩ = some (.int .i64 k2) := HC.out.2.1.cell 2
              clear hR
              simp only [g88, h92]
              clear g88 h92
              refine if_yes (by kernel_rfl) ?_
              unfold Oper.wp
              go_simp
              exact ⟨.int .i64 k2, rfl, HC.out, Below.refl _ _, rfl⟩
            · have g88 : u 88 = .bool false := hR ⟨19, .guard⟩ (by simp) rfl
              have h89 : u 89 = .string x := hR ⟨20, .data⟩ (by simp) rfl
              have h91 : u 91 = .int .i64 k1 := hR ⟨22, .data⟩ (by simp) rfl
              have h93 : u 93 = .int .i64 k2 := hR ⟨24, .data⟩ (by simp) rfl
              clear hR
              simp only [g88, h89, h91, h93]
              clear g88 h89 h91 h93
              refine if_yes (by kernel_rfl) ?_
              unfold Oper.wp
              go_simp
              refine (fr_hurt x k1 k2 _ HX.out).mono ?_
              rintro r w2 ⟨rfl, hb2⟩
              rw [HH.out]
              exact ⟨.string h, rfl, HC.out.call hb2, hb2, rfl⟩
            · have g88 : u 88 = .bool false := hR ⟨19, .guard⟩ (by simp) rfl
              have h94 : u 94 = .string h := hR ⟨25, .data⟩ (by simp) rfl
              clear hR
              simp only [g88, h94]
              clear g88 h94
              refine if_yes (by kernel_rfl) ?_
              unfold Oper.wp
              go_simp
              refine (fr_dec h _ HS3.out HC.out.2.2.2.1).mono ?_
              rintro r w2 ⟨rfl, hb2⟩
              rw [HP3.out]
              exact ⟨.agg bad0, rfl, HC.out.call hb2, hb2, rfl⟩
            · have g88 : u 88 = .bool false := hR ⟨19, .guard⟩ (by simp) rfl
              clear hR
              simp only [g88]
              clear g88
              refine if_yes (by kernel_rfl) ?_
              exact wp_load_row 30 (.tmp 14) rfl _ rfl 30 _ (0, 0) _ HC.out.2.2.1 Tryd.underlying30 rfl size_page ⟨.agg bad0, rfl, HC.out, Below.refl _ _, rfl⟩
            · have g88 : u 88 = .bool false := hR ⟨19, .guard⟩ (by simp) rfl
              have h95 : u 95 = .agg bad0 := hR ⟨26, .data⟩ (by simp) rfl
              have h96 : u 96 = .agg bad0 := hR ⟨27, .data⟩ (by simp) rfl
              clear hR
              simp only [g88, h95, h96]
              clear g88 h95 h96
              refine if_yes (by kernel_rfl) ?_
              refine wp_neq_page (.tmp 95) (.tmp 96) rfl 4 0 0 0 0 4 0 0 0 0 _ _ rfl rfl ?_
              rw [sameP_self]
              exact ⟨.bool false, rfl, HC.out, Below.refl _ _, rfl⟩
            · have h88 : u 88 = .bool false := hR ⟨19, .data⟩ (by simp) rfl
              have h97 : u 97 = .bool false := hR ⟨28, .data⟩ (by simp) rfl
              clear hR
              simp only [h88, h97]
              clear h88 h97
              refine if_yes (by kernel_rfl) ?_
              unfold Oper.wp
              go_simp
              exact ⟨.bool false, rfl, HC.out, Below.refl _ _, rfl⟩
          · intro a w' hC hB hR
            have h98 : a.tmps.getD 98 undef = .bool false := hR 29 (by decide)
            clear hR
            have HC9 := Lib.hid hC
            clear hC
            obtain ⟨u, rfl⟩ := hB
            have h98 : u 98 = .bool false := h98
            simp only [h98]
            clear h98
            go_wp2_with fail
            go_roundw
            case rel => exact ⟨j + 1, by omega, by go_num, HC9.out⟩
            case measure => simp [intOf]; omega
      · obtain rfl : j = 2 := by omega
        have HK9 := Lib.hid hct.2.2.2.2.1
        clear hct hbx hlt
        go_wp2_with fail
        go_ret
        exact ⟨rfl, HK9.out⟩
  · have he := enc_none hok
    have HKb := Lib.hid HK1.out.2.2
    obtain ⟨c, hc⟩ : ∃ c, frE k l q e data = c := ⟨_, rfl⟩
    rw [hc] at he
    rw [he.1, hc]
    have hc2 := he.2
    clear hok he hc HK1
    rcases hc2 with rfl | rfl
    all_goals
      go_wp2_with fail
      go_ret
      exact ⟨rfl, HKb.out⟩

end Go.Proofs.YtlacmfacigfioaaDoor
