/- Texts of one claim, merged: FrL4, FrF5. -/
import Derived.Test.YtlacmfacigfioaaDoorM9

/- The walk of the law FrameFixes. -/
namespace Go.Proofs.YtlacmfacigfioaaDoor
set_option maxRecDepth 100000
open Go.RowKit

theorem wp_build_page {o : Oper} {a : Act} {w : World} {K : Act → World → Prop} {Q : Exit → Act → World → Prop} (x y z : Operand) (ho : o.op = .build 30 #[(0, x), (1, y), (2, z)])
    (f k l q e : Int) (d : ByteArray) (hx : a.eval x = .int .i64 f) (hy : a.eval y = .agg (ta k l q e)) (hz : a.eval z = .string d) (h : K (a.put o.dst (.agg (pv f k l q e d))) w) : o.wp Tryd.prog a w K Q := by
  have hb := build_page f k l q e d w
  unfold Oper.wp execOp
  simp only [ho, List.map_toArray, List.map_cons, List.map_nil, hx, hy, hz, Sem.run_bind, hb, Result.andThen_ok, Sem.run_pure]
  exact h

/-- what each operation of the region FX leaves -/
def vsFX (k l q e f : Int) (s b data : ByteArray) : List (Option (Tmp × Value)) :=
  [some (59, .string s), some (60, .agg (pv f k l q e data)), some (61, .int .i64 f), some (62, .agg (ta k l q e)), some (63, .string data), some (64, .agg (pv f k l q e data)), some (65, .bool true), some (66, .bool true), some (67, .string b), some (68, .agg P1'), some (69, .agg P1'), some (70, .bool true), some (71, .bool true), some (6, .bool true)]
/-- the frame while the region FX runs -/
def BaseFX (b3 : Nat) (s b data : ByteArray) (f : Int) (a : Act) : Prop := ∃ u : Nat → Value, a = ⟨#[u 0, .string data, u 2, .pointer (some ⟨b3, 0, none⟩), u 4, u 5, u 6, .string s, u 8, .string b, .int .i64 f, u 11, u 12, u 13, u 14, u 15, u 16, u 17, u 18, u 19, u 20, u 21, u 22, u 23, u 24, u 25, u 26, u 27, u 28, u 29, u 30, u 31, u 32, u 33, u 34, u 35, u 36, u 37, u 38, u 39, u 40, u 41, u 42, u 43, u 44, u 45, u 46, u 47, u 48, u 49, u 50, u 51, u 52, u 53, u 54, u 55, u 56, u 57, u 58, u 59, u 60, u 61, u 62, u 63, u 64, u 65, u 66, u 67, u 68, u 69, u 70, u 71], []⟩
theorem BaseFX.of {b3 : Nat} {s b data : ByteArray} {f : Int} (arr : Array Value) (h : arr = #[arr.getD 0 undef, .string data, arr.getD 2 undef, .pointer (some ⟨b3, 0, none⟩), arr.getD 4 undef, arr.getD 5 undef, arr.getD 6 undef, .string s, arr.getD 8 undef, .string b, .int .i64 f, arr.getD 11 undef, arr.getD 12 undef, arr.getD 13 undef, arr.getD 14 undef, arr.getD 15 undef, arr.getD 16 undef, arr.getD 17 undef, arr.getD 18 undef, arr.getD 19 undef, arr.getD 20 undef, arr.getD 21 undef, arr.getD 22 undef, arr.getD 23 undef, arr.getD 24 undef, arr.getD 25 undef, arr.getD 26 undef, arr.getD 27 undef, arr.getD 28 undef, arr.getD 29 undef, arr.getD 30 undef, arr.getD 31 undef, arr.getD 32 undef, arr.getD 33 undef, arr.getD 34 undef, arr.getD 35 undef, arr.getD 36 undef, arr.getD 37 undef, arr.getD 38 undef, arr.getD 39 undef, arr.getD 40 undef, arr.getD 41 undef, arr.getD 42 undef, arr.getD 43 undef, arr.getD 44 undef, arr.getD 45 undef, arr.getD 46 undef, arr.getD 47 undef, arr.getD 48 undef, arr.getD 49 undef, arr.getD 50 undef, arr.getD 51 undef, arr.getD 52 undef, arr.getD 53 undef, arr.getD 54 undef, arr.getD 55 undef, arr.getD 56 undef, arr.getD 57 undef, arr.getD 58 undef, arr.getD 59 undef, arr.getD 60 undef, arr.getD 61 undef, arr.getD 62 undef, arr.getD 63 undef, arr.getD 64 undef, arr.getD 65 undef, arr.getD 66 undef, arr.getD 67 undef, arr.getD 68 undef, arr.getD 69 undef, arr.getD 70 undef, arr.getD 71 undef]) : BaseFX b3 s b data f ⟨arr, []⟩ := ⟨fun i => arr.getD i undef, by rw [← h]⟩
theorem BaseFX.put59 {b3 : Nat} {s b data : ByteArray} {f : Int} (a : Act) (v : Value) (h : BaseFX b3 s b data f a) : BaseFX b3 s b data f (a.put (some 59) v) := by
  obtain ⟨u, rfl⟩ := h
  exact ⟨fun i => if i = 59 then v else u i, by kernel_rfl⟩
theorem BaseFX.put60 {b3 : Nat} {s b data : ByteArray} {f : Int} (a : Act) (v : Value) (h : BaseFX b3 s b data f a) : BaseFX b3 s b data f (a.put (some 60) v) := by
  obtain ⟨u, rfl⟩ := h
  exact ⟨fun i => if i = 60 then v else u i, by kernel_rfl⟩
theorem BaseFX.put61 {b3 : Nat} {s b data : ByteArray} {f : Int} (a : Act) (v : Value) (h : BaseFX b3 s b data f a) : BaseFX b3 s b data f (a.put (some 61) v) := by
  obtain ⟨u, rfl⟩ := h
  exact ⟨fun i => if i = 61 then v else u i, by kernel_rfl⟩
theorem BaseFX.put62 {b3 : Nat} {s b data : ByteArray} {f : Int} (a : Act) (v : Value) (h : BaseFX b3 s b data f a) : BaseFX b3 s b data f (a.put (some 62) v) := by
  obtain ⟨u, rfl⟩ := h
  exact ⟨fun i => if i = 62 then v else u i, by kernel_rfl⟩
theorem BaseFX.put63 {b3 : Nat} {s b data : ByteArray} {f : Int} (a : Act) (v : Value) (h : BaseFX b3 s b data f a) : BaseFX b3 s b data f (a.put (some 63) v) := by
  obtain ⟨u, rfl⟩ := h
  exact ⟨fun i => if i = 63 then v else u i, by kernel_rfl⟩
theorem BaseFX.put64 {b3 : Nat} {s b data : ByteArray} {f : Int} (a : Act) (v : Value) (h : BaseFX b3 s b data f a) : BaseFX b3 s b data f (a.put (some 64) v) := by
  obtain ⟨u, rfl⟩ := h
  exact ⟨fun i => if i = 64 then v else u i, by kernel_rfl⟩
theorem BaseFX.put65 {b3 : Nat} {s b data : ByteArray} {f : Int} (a : Act) (v : Value) (h : BaseFX b3 s b data f a) : BaseFX b3 s b data f (a.put (some 65) v) := by
  obtain ⟨u, rfl⟩ := h
  exact ⟨fun i => if i = 65 then v else u i, by kernel_rfl⟩
theorem BaseFX.put66 {b3 : Nat} {s b data : ByteArray} {f : Int} (a : Act) (v : Value) (h : BaseFX b3 s b data f a) : BaseFX b3 s b data f (a.put (some 66) v) := by
  obtain ⟨u, rfl⟩ := h
  exact ⟨fun i => if i = 66 then v else u i, by kernel_rfl⟩
theorem BaseFX.put67 {b3 : Nat} {s b data : ByteArray} {f : Int} (a : Act) (v : Value) (h : BaseFX b3 s b data f a) : BaseFX b3 s b data f (a.put (some 67) v) := by
  obtain ⟨u, rfl⟩ := h
  exact ⟨fun i => if i = 67 then v else u i, by kernel_rfl⟩
theorem BaseFX.put68 {b3 : Nat} {s b data : ByteArray} {f : Int} (a : Act) (v : Value) (h : BaseFX b3 s b data f a) : BaseFX b3 s b data f (a.put (some 68) v) := by
  obtain ⟨u, rfl⟩ := h
  exact ⟨fun i => if i = 68 then v else u i, by kernel_rfl⟩
theorem BaseFX.put69 {b3 : Nat} {s b data : ByteArray} {f : Int} (a : Act) (v : Value) (h : BaseFX b3 s b data f a) : BaseFX b3 s b data f (a.put (some 69) v) := by
  obtain ⟨u, rfl⟩ := h
  exact ⟨fun i => if i = 69 then v else u i, by kernel_rfl⟩
theorem BaseFX.put70 {b3 : Nat} {s b data : ByteArray} {f : Int} (a : Act) (v : Value) (h : BaseFX b3 s b data f a) : BaseFX b3 s b data f (a.put (some 70) v) := by
  obtain ⟨u, rfl⟩ := h
  exact ⟨fun i => if i = 70 then v else u i, by kernel_rfl⟩
theorem BaseFX.put71 {b3 : Nat} {s b data : ByteArray} {f : Int} (a : Act) (v : Value) (h : BaseFX b3 s b data f a) : BaseFX b3 s b data f (a.put (some 71) v) := by
  obtain ⟨u, rfl⟩ := h
  exact ⟨fun i => if i = 71 then v else u i, by kernel_rfl⟩
theorem BaseFX.put6 {b3 : Nat} {s b data : ByteArray} {f : Int} (a : Act) (v : Value) (h : BaseFX b3 s b data f a) : BaseFX b3 s b data f (a.put (some 6) v) := by
  obtain ⟨u, rfl⟩ := h
  exact ⟨fun i => if i = 6 then v else u i, by kernel_rfl⟩

set_option maxHeartbeats 2000000 in
set_option maxRecDepth 100000 in
theorem walk_FrameFixes (k l q e : Int) (data : ByteArray) (oa : Option Addr) (cap : Nat) (zs : List Int) (hs : data.size ≤ maxLen) (hzl : zs.length ≤ maxLen) (w : World) (hT : Tabs w) (hcs : IntsArg w oa zs) :
    Calls Tryd.prog 7 #[.agg (ta k l q e), .string data, .slice oa zs.length cap] w fun r w' => r = .returned (.bool true) ∧ Below w.heap.size w w' := by
  have hm2 : (data.size : Int) ≤ 9223372036854775807 := by unfold maxLen at hs; omega
  have HT := Lib.hid hT
  have HS := Lib.hid hs
  have HCS := Lib.hid hcs
  obtain ⟨n, hn⟩ : ∃ n, zs.length = n := ⟨_, rfl⟩
  rw [hn] at hzl ⊢
  have hn2 : (n : Int) ≤ 9223372036854775807 := by unfold maxLen at hzl; omega
  have HN := Lib.hid hn
  clear hT hs hcs hn hzl
  go_enter Tryd.func7, Tryd.ntmps7
  go_wp2_with fail
  refine (works_any _ (HT.out.after ((Below.refl _ _).alloc (Nat.le_refl _) _))).mono ?_
  rintro r w0 ⟨rfl, hb0⟩
  have HK0 : Hid (CB w w.heap.size k l q e w0) := ⟨(Blk.new w (ta k l q e) 23).after hb0, (HT.out.after ((Below.refl _ _).alloc (Nat.le_refl _) _)).after hb0, ((Below.refl _ _).alloc (Nat.le_refl _) _).trans (hb0.mono (by simp))⟩
  clear hb0
  go_wp2_with (refine wpList_load_row rfl 23 (.tmp 3) rfl w.heap.size rfl 23 (ta k l q e) (0, 0) _ HK0.out.1 Tryd.underlying23 rfl size_tag ?_)
  refine (fr_enc k l q e data _ HS.out HK0.out.2.1).mono ?_
  rintro r w1 ⟨rfl, hb1⟩
  have HK1 := Lib.hid (HK0.out.call hb1)
  clear hb1 HK0
  by_cases hok : LenOk data.size ∧ MayT k l q e
  · obtain ⟨hl, hm⟩ := hok
    have he := enc_page hl hm
    have hbl := blank_len hl
    have h256 : data.size ≤ 256 := hl.2.1
    have h8 : 8 ≤ data.size := hl.1
    obtain ⟨c, hc⟩ : ∃ c, (data.size + 24) / 8 = c := ⟨_, rfl⟩
    have hst := FixI.start k l q e data c hl hc
    have hend := fun (m : Nat) (s b : ByteArray) (f : Int) (h : FixI (inner k l q e data) c m s b f) => h.end hl hm hc
    have hc4 : 4 ≤ c := by omega
    have hc35 : c ≤ 35 := by omega
    rw [hc, Nat.mul_comm] at hbl
    rw [he.1, he.2]
    obtain ⟨z, hz⟩ : ∃ z, inner k l q e data = z := ⟨_, rfl⟩
    obtain ⟨ps, hps⟩ : ∃ ps, pageS k l q e data = ps := ⟨_, rfl⟩
    obtain ⟨bl, hble⟩ : ∃ b, ffS (9 * c) = b := ⟨_, rfl⟩
    rw [hz, hps, hble] at hst
    rw [hz] at hend
    rw [hble] at hbl
    rw [hps]
    have HST := Lib.hid hst
    have HEND := Lib.hid hend
    have HBL := Lib.hid hbl
    clear he hst hend hbl hz hps hble hl hm hc h256 h8
    go_wp2_with fail
    refine (fr_blank (data.size : Int) _).mono ?_
    rintro r w2 ⟨rfl, hb2⟩
    rw [HBL.out]
    have HK2 := Lib.hid (HK1.out.call hb2)
    clear hb2 HK1 HBL
    go_wp2_with fail
    go_loopw [7, 9, 10, 11] (fun sv bv fv iv wr => ∃ (m : Nat) (s b : ByteArray) (f : Int), m ≤ n ∧ m ≤ c ∧ iv = .int .i64 m ∧ sv = .string s ∧ bv = .string b ∧ fv = .int .i64 f ∧ FixI z c m s b f ∧ CB w w.heap.size k l q e wr) (fun _ _ _ i _ => c - (intOf i).toNat)
    case atStart => exact ⟨0, ps, bl, 2, Nat.zero_le _, Nat.zero_le _, rfl, rfl, rfl, rfl, HST.out, HK2.out⟩
    case round =>
      obtain ⟨m, s, b, f, hmn, hmc, rfl, rfl, rfl, rfl, hI, hcb⟩ := hrel
      have hsz := hI.sizes
      have HI := Lib.hid hI
      have HCB := Lib.hid hcb
      clear hI hcb HST HK2
      have hs9 : s.size = 9 * c := hsz.1
      have hsi : (s.size : Int) / 9 = (c : Int) := by omega
      have HSZ := Lib.hid hsz
      have hs4 : (s.size : Int) ≤ 400 := by omega
      clear hsz hs9
      by_cases h12 : m < n ∧ m < c
      · obtain ⟨h1, h2⟩ := h12
        obtain ⟨a, rfl, hab, hcl⟩ := HCS.out m (by rw [HN.out]; exact h1)
        have hcw : wr.cell? (a.add m) = some (.int .i64 (zs.getD m 0)) := (HCB.out.2.2.cell (p := a.add m) (by rw [add_block]; exact hab)).trans hcl
        obtain ⟨y, hy⟩ : ∃ y, zs.getD m 0 = y := ⟨_, rfl⟩
        rw [hy] at hcw
        clear hcl hab hy
        by_cases h0 : 0 ≤ y
        · obtain ⟨r, hr⟩ : ∃ r, (y % 72).toNat = r := ⟨_, rfl⟩
          have hr72 : r < 72 := by omega
          have hyr : y % 72 = (r : Int) := by omega
          have HR := Lib.hid hyr
          have HR72 := Lib.hid hr72
          have HF := Lib.hid (HI.out.flip h2 r hr72)
          have hm1 : (m : Int) % (c : Int) = (m : Int) := Int.emod_eq_of_lt (by omega) (by omega)
          have HM1 := Lib.hid hm1
          clear hr hr72 hyr hm1
          go_wp2_with fail
          refine (turned_any s (m : Int) y m r _ (by have := HSZ.out.1; omega) (by omega) (by rw [show s.size / 9 = c by have := HSZ.out.1; omega]; exact HM1.out) HR.out).mono ?_
          rintro r1 w3 ⟨rfl, hb3⟩
          have HCB3 := Lib.hid (HCB.out.call hb3)
          have hcw3 : w3.cell? (a.add m) = some (.int .i64 y) := (hb3.cell (p := a.add m) (cell_lt hcw)).trans hcw
          clear hb3 hcw
          obtain ⟨s2, hs2⟩ : ∃ t, flipS s (9 * m + r / 8) (r % 8) = t := ⟨_, rfl⟩
          rw [hs2] at HF ⊢
          clear hs2
          go_wp2_with fail
          refine (turned_any b (m : Int) y m r _ (by have := HSZ.out.2; omega) (by have := HSZ.out.2; omega) (by rw [show b.size / 9 = c by have := HSZ.out.2; omega]; exact HM1.out) HR.out).mono ?_
          rintro r1 w4 ⟨rfl, hb4⟩
          have HCB4 := Lib.hid (HCB3.out.call hb4)
          clear hb4 hcw3
          obtain ⟨b2, hb2⟩ : ∃ t, flipS b (9 * m + r / 8) (r % 8) = t := ⟨_, rfl⟩
          rw [hb2] at HF ⊢
          clear hb2
          go_wp2_with fail
          go_roundw
          case rel => exact ⟨m + 1, s2, b2, 3, by omega, by omega, by go_num, rfl, rfl, rfl, HF.out, HCB4.out⟩
          case measure => simp [intOf]; omega
        · have HI2 := Lib.hid HI.out.skip
          go_wp2_with fail
          go_roundw
          case rel => exact ⟨m + 1, s, b, f, by omega, by omega, by go_num, rfl, rfl, rfl, HI2.out, HCB.out⟩
          case measure => simp [intOf]; omega
      · have h3 : ¬ m < n ∨ (m < n ∧ ¬ m < c) := by omega
        have hen := HEND.out m s b f HI.out
        have HP1 := Lib.hid hen.1
        have HP2 := Lib.hid hen.2
        have HS1 : Hid (s.size ≤ 400) := by show s.size ≤ 400; have := HSZ.out.1; omega
        have HS2 : Hid (b.size ≤ 400) := by show b.size ≤ 400; have := HSZ.out.2; omega
        clear h12 hen HEND HI
        rcases h3 with h3 | ⟨h3, h4⟩
        all_goals
          go_wp2_with fail
          rename_i K0 hK0
          refine wp_region_list3 (SV (vsFX k l q e f s b data) []) (BaseFX w.heap.size s b data f) (CB w w.heap.size k l q e) Goes (RV (vsFX k l q e f s b data) (fun _ _ _ => False)) rfl (by kernel_rfl) (RV.ext no_special5) ?_ HCB.out.drew (BaseFX.of _ (by kernel_rfl)) ?_ ?_
          · exact ⟨BaseFX.put59, BaseFX.put60, BaseFX.put61, BaseFX.put62, BaseFX.put63, BaseFX.put64, BaseFX.put65, BaseFX.put66, BaseFX.put67, BaseFX.put68, BaseFX.put69, BaseFX.put70, BaseFX.put71, BaseFX.put6, trivial⟩
          · refine ⟨?_, ?_, ?_, ?_, ?_, ?_, ?_, ?_, ?_, ?_, ?_, ?_, ?_, ?_, trivial⟩
            all_goals
              intro a w' hC hB hR
              obtain ⟨u, rfl⟩ := hB
              have HC := Lib.hid hC
              clear hC
              clear hK0
            · clear hR
              refine if_yes (by kernel_rfl) ?_
              unfold Oper.wp
              go_simp
              exact ⟨.string s, rfl, HC.out, Below.refl _ _, rfl⟩
            · have h59 : u 59 = .string s := hR ⟨0, .data⟩ (by simp) rfl
              clear hR
              simp only [h59]
              clear h59
              refine if_yes (by kernel_rfl) ?_
              unfold Oper.wp
              go_simp
              refine (fr_dec s _ HS1.out HC.out.2.1).mono ?_
              rintro r w2 ⟨rfl, hb2⟩
              rw [HP1.out]
              exact ⟨.agg (pv f k l q e data), rfl, HC.out.call hb2, hb2, rfl⟩
            · clear hR
              refine if_yes (by kernel_rfl) ?_
              unfold Oper.wp
              go_simp
              exact ⟨.int .i64 f, rfl, HC.out, Below.refl _ _, rfl⟩
            · clear hR
              refine if_yes (by kernel_rfl) ?_
              exact wp_load_row 23 (.tmp 3) rfl _ rfl 23 _ (0, 0) _ HC.out.1 Tryd.underlying23 rfl size_tag ⟨.agg (ta k l q e), rfl, HC.out, Below.refl _ _, rfl⟩
            · clear hR
              refine if_yes (by kernel_rfl) ?_
              unfold Oper.wp
              go_simp
              exact ⟨.string data, rfl, HC.out, Below.refl _ _, rfl⟩
            · have h61 : u 61 = .int .i64 f := hR ⟨2, .data⟩ (by simp) rfl
              have h62 : u 62 = .agg (ta k l q e) := hR ⟨3, .data⟩ (by simp) rfl
              have h63 : u 63 = .string data := hR ⟨4, .data⟩ (by simp) rfl
              clear hR
              simp only [h61, h62, h63]
              clear h61 h62 h63
              refine if_yes (by kernel_rfl) ?_
              exact wp_build_page (.tmp 61) (.tmp 62) (.tmp 63) rfl f k l q e data rfl rfl rfl ⟨.agg (pv f k l q e data), rfl, HC.out, Below.refl _ _, rfl⟩
            · have h60 : u 60 = .agg (pv f k l q e data) := hR ⟨1, .data⟩ (by simp) rfl
              have h64 : u 64 = .agg (pv f k l q e data) := hR ⟨5, .data⟩ (by simp) rfl
              clear hR
              simp only [h60, h64]
              clear h60 h64
              refine if_yes (by kernel_rfl) ?_
              refine wp_eql_page (.tmp 60) (.tmp 64) rfl f k l q e f k l q e _ _ rfl rfl ?_
              rw [sameP_self]
              exact ⟨.bool true, rfl, HC.out, Below.refl _ _, rfl⟩
            · have h65 : u 65 = .bool true := hR ⟨6, .data⟩ (by simp) rfl
              clear hR
              simp only [h65]
              clear h65
              refine if_yes (by kernel_rfl) ?_
              unfold Oper.wp
              go_simp
              exact ⟨.bool true, rfl, HC.out, Below.refl _ _, rfl⟩
            · have g66 : u 66 = .bool true := hR ⟨7, .guard⟩ (by simp) rfl
              clear hR
              simp only [g66]
              clear g66
              refine if_yes (by kernel_rfl) ?_
              unfold Oper.wp
              go_simp
              exact ⟨.string b, rfl, HC.out, Below.refl _ _, rfl⟩
            · have g66 : u 66 = .bool true := hR ⟨7, .guard⟩ (by simp) rfl
              have h67 : u 67 = .string b := hR ⟨8, .data⟩ (by simp) rfl
              clear hR
              simp only [g66, h67]
              clear g66 h67
              refine if_yes (by kernel_rfl) ?_
              unfold Oper.wp
              go_simp
              refine (fr_dec b _ HS2.out HC.out.2.1).mono ?_
              rintro r w2 ⟨rfl, hb2⟩
              rw [HP2.out]
              exact ⟨.agg P1', rfl, HC.out.call hb2, hb2, rfl⟩
            · have g66 : u 66 = .bool true := hR ⟨7, .guard⟩ (by simp) rfl
              clear hR
              simp only [g66]
              clear g66
              refine if_yes (by kernel_rfl) ?_
              unfold Oper.wp
              go_simp
              exact ⟨.agg P1', rfl, HC.out, Below.refl _ _, rfl⟩
            · have g66 : u 66 = .bool true := hR ⟨7, .guard⟩ (by simp) rfl
              have h68 : u 68 = .agg P1' := hR ⟨9, .data⟩ (by simp) rfl
              have h69 : u 69 = .agg P1' := hR ⟨10, .data⟩ (by simp) rfl
              clear hR
              simp only [g66, h68, h69]
              clear g66 h68 h69
              refine if_yes (by kernel_rfl) ?_
              refine wp_eql_page (.tmp 68) (.tmp 69) rfl 1 0 0 0 0 1 0 0 0 0 _ _ rfl rfl ?_
              rw [sameP_self]
              exact ⟨.bool true, rfl, HC.out, Below.refl _ _, rfl⟩
            · have h66 : u 66 = .bool true := hR ⟨7, .data⟩ (by simp) rfl
              have h70 : u 70 = .bool true := hR ⟨11, .data⟩ (by simp) rfl
              clear hR
              simp only [h66, h70]
              clear h66 h70
              refine if_yes (by kernel_rfl) ?_
              unfold Oper.wp
              go_simp
              exact ⟨.bool true, rfl, HC.out, Below.refl _ _, rfl⟩
            · have h71 : u 71 = .bool true := hR ⟨12, .data⟩ (by simp) rfl
              clear hR
              simp only [h71]
              clear h71
              refine if_yes (by kernel_rfl) ?_
              unfold Oper.wp
              go_simp
              exact ⟨.bool true, rfl, HC.out, Below.refl _ _, rfl⟩
          · intro a w' hC hB hR
            have h6 : a.tmps.getD 6 undef = .bool true := hR 13 (by decide)
            clear hR
            have HK := Lib.hid hC.2.2
            clear hC
            obtain ⟨u, rfl⟩ := hB
            have h6 : u 6 = .bool true := h6
            simp only [h6]
            clear h6
            go_wp2_with fail
            go_ret
            exact ⟨rfl, HK.out⟩
  · have he := enc_none hok
    have HKb := Lib.hid HK1.out.2.2
    obtain ⟨c, hc⟩ : ∃ c, frE k l q e data = c := ⟨_, rfl⟩
    rw [hc] at he
    rw [he.1, hc]
    have hc2 := he.2
    clear hok he hc HK1
    rcases hc2 with rfl | rfl
    all_goals
      go_wp2_with fail
      go_ret
      exact ⟨rfl, HKb.out⟩

end Go.Proofs.YtlacmfacigfioaaDoor

/- The frames of FrameTells's test. -/
namespace Go.Proofs.YtlacmfacigfioaaDoor
set_option maxRecDepth 100000
open Go.RowKit

theorem ne_page (f k l q e f' k' l' q' e' : Int) (d d' : ByteArray) (w : World) : Sem.run Tryd.prog (binOp .neq 30 (.agg (pv f k l q e d)) (.agg (pv f' k' l' q' e' d'))) w = .ok (.bool (!sameP f k l q e d f' k' l' q' e' d')) w := by
  rw [run_neq_struct, run_equalIn_agg _ _ _ _ _ (by kernel_rfl) (by kernel_rfl), fields_page]
  rfl
theorem wp_neq_page {o : Oper} {a : Act} {w : World} {K : Act → World → Prop} {Q : Exit → Act → World → Prop} (x y : Operand) (ho : o.op = .binOp .neq 30 x y 30)
    (f k l q e f' k' l' q' e' : Int) (d d' : ByteArray) (hx : a.eval x = .agg (pv f k l q e d)) (hy : a.eval y = .agg (pv f' k' l' q' e' d')) (h : K (a.put o.dst (.bool (!sameP f k l q e d f' k' l' q' e' d'))) w) : o.wp Tryd.prog a w K Q := by
  unfold Oper.wp execOp
  simp only [ho, hx, hy, Sem.run_bind, run_eqGuard_agg (P := Tryd.prog) w .neq 30 x y _ _ (by kernel_rfl), Result.andThen_ok, ne_page]
  exact h
/-- the world while FrameTells goes on: the tag, the numbers, the page that is told as bad -/
def CT5 (w0 : World) (b3 b5 b14 : Nat) (k l q e k0 k1 k2 k3 : Int) (w : World) : Prop := Blk w b3 (ta k l q e) 23 ∧ Blk w b5 (ta k0 k1 k2 k3) 38 ∧ Blk w b14 bad0 30 ∧ Tabs w ∧ Kept w0 w
theorem CT5.call {w0 w w' : World} {b3 b5 b14 : Nat} {k l q e k0 k1 k2 k3 : Int} (h : CT5 w0 b3 b5 b14 k l q e k0 k1 k2 k3 w) (hb : Below w.heap.size w w') : CT5 w0 b3 b5 b14 k l q e k0 k1 k2 k3 w' :=
  ⟨h.1.after hb, h.2.1.after hb, h.2.2.1.after hb, h.2.2.2.1.after hb, h.2.2.2.2.call hb⟩
theorem CT5.drew {w0 w : World} {b3 b5 b14 : Nat} {k l q e k0 k1 k2 k3 : Int} (h : CT5 w0 b3 b5 b14 k l q e k0 k1 k2 k3 w) : CT5 w0 b3 b5 b14 k l q e k0 k1 k2 k3 w.drew := h.call (Below.refl _ _).drew

/-- what each operation of the region FTD leaves -/
def vsFTD (b5 o ai : Nat) (k1 k2 : Int) (x y y3 h : ByteArray) : List (Option (Tmp × Value)) :=
  [some (69, .string y), some (70, .agg bad0), some (71, .agg bad0), some (72, .bool false), some (73, .bool false), some (74, .int .i64 (o : Nat)), some (75, .int .i64 (ai : Nat)), some (76, .bool true), some (77, .bool true), some (78, .string y), some (79, .int .i64 (o : Nat)), some (80, .pointer (some ⟨b5, 1, none⟩)), some (81, .int .i64 k1), some (82, .string y3), some (83, .agg bad0), some (84, .agg bad0), some (85, .bool false), some (86, .bool false), some (87, .bool false), some (88, .bool false), some (89, .string x), some (90, .pointer (some ⟨b5, 1, none⟩)), some (91, .int .i64 k1), some (92, .pointer (some ⟨b5, 2, none⟩)), some (93, .int .i64 k2), some (94, .string h), some (95, .agg bad0), some (96, .agg bad0), some (97, .bool false), some (98, .bool false)]
/-- the frame while the region FTD runs -/
def BaseFTD (b3 b5 b14 bg j o ai p qq c m : Nat) (k l q e k0 k1 k2 k3 : Int) (data ps bl x y : ByteArray) (a : Act) : Prop := ∃ u : Nat → Value, a = ⟨#[.agg (ta k l q e), .string data, .agg (ta k0 k1 k2 k3), .pointer (some ⟨b3, 0, none⟩), undef, .pointer (some ⟨b5, 0, none⟩), u 6, .string ps, .int .i64 0, .int .i64 (c : Nat), .int .i64 (ai : Nat), .int .i64 (o : Nat), .int .i64 (p : Nat), .int .i64 (qq : Nat), .pointer (some ⟨b14, 0, none⟩), undef, .string x, .string y, .bool true, .bool false, .tuple #[.string ps, .int .i64 0], .agg (ta k l q e), .string data, .tuple #[.string ps, .int .i64 0], .string ps, .int .i64 0, .int .i64 0, .bool false, undef, undef, .string ps, .int .i64 (ps.size : Nat), .int .i64 (c : Nat), .pointer (some ⟨b5, 0, none⟩), .int .i64 k0, .int .i64 (c : Nat), .int .i64 (ai : Nat), .pointer (some ⟨b5, 3, none⟩), .int .i64 k3, .int .i64 (c : Nat), .int .i64 (o : Nat), .pointer (some ⟨b5, 1, none⟩), .int .i64 k1, .int .i64 (p : Nat), .int .i64 (p : Nat), .int .i64 ((p : Int) + 1), .pointer (some ⟨b5, 2, none⟩), .int .i64 k2, .int .i64 (m : Nat), .int .i64 ((p : Int) + 1 + (m : Int)), .int .i64 (qq : Nat), .agg #[.int .i64 4, .int .i64 0, .int .i64 0, .int .i64 0, .int .i64 0, .string { data := #[] }], .string ps, .string data, .int .i64 (data.size : Nat), .string bl, .slice (some ⟨bg, 0, none⟩) 2 2, .int .i64 2, .int .i64 (j : Nat), u 59, u 60, u 61, u 62, u 63, u 64, u 65, u 66, u 67, u 68, u 69, u 70, u 71, u 72, u 73, u 74, u 75, u 76, u 77, u 78, u 79, u 80, u 81, u 82, u 83, u 84, u 85, u 86, u 87, u 88, u 89, u 90, u 91, u 92, u 93, u 94, u 95, u 96, u 97, u 98, u 99], []⟩
theorem BaseFTD.of {b3 b5 b14 bg j o ai p qq c m : Nat} {k l q e k0 k1 k2 k3 : Int} {data ps bl x y : ByteArray} (arr : Array Value) (h : arr = #[.agg (ta k l q e), .string data, .agg (ta k0 k1 k2 k3), .pointer (some ⟨b3, 0, none⟩), undef, .pointer (some ⟨b5, 0, none⟩), arr.getD 6 undef, .string ps, .int .i64 0, .int .i64 (c : Nat), .int .i64 (ai : Nat), .int .i64 (o : Nat), .int .i64 (p : Nat), .int .i64 (qq : Nat), .pointer (some ⟨b14, 0, none⟩), undef, .string x, .string y, .bool true, .bool false, .tuple #[.string ps, .int .i64 0], .agg (ta k l q e), .string data, .tuple #[.string ps, .int .i64 0], .string ps, .int .i64 0, .int .i64 0, .bool false, undef, undef, .string ps, .int .i64 (ps.size : Nat), .int .i64 (c : Nat), .pointer (some ⟨b5, 0, none⟩), .int .i64 k0, .int .i64 (c : Nat), .int .i64 (ai : Nat), .pointer (some ⟨b5, 3, none⟩), .int .i64 k3, .int .i64 (c : Nat), .int .i64 (o : Nat), .pointer (some ⟨b5, 1, none⟩), .int .i64 k1, .int .i64 (p : Nat), .int .i64 (p : Nat), .int .i64 ((p : Int) + 1), .pointer (some ⟨b5, 2, none⟩), .int .i64 k2, .int .i64 (m : Nat), .int .i64 ((p : Int) + 1 + (m : Int)), .int .i64 (qq : Nat), .agg #[.int .i64 4, .int .i64 0, .int .i64 0, .int .i64 0, .int .i64 0, .string { data := #[] }], .string ps, .string data, .int .i64 (data.size : Nat), .string bl, .slice (some ⟨bg, 0, none⟩) 2 2, .int .i64 2, .int .i64 (j : Nat), arr.getD 59 undef, arr.getD 60 undef, arr.getD 61 undef, arr.getD 62 undef, arr.getD 63 undef, arr.getD 64 undef, arr.getD 65 undef, arr.getD 66 undef, arr.getD 67 undef, arr.getD 68 undef, arr.getD 69 undef, arr.getD 70 undef, arr.getD 71 undef, arr.getD 72 undef, arr.getD 73 undef, arr.getD 74 undef, arr.getD 75 undef, arr.getD 76 undef, arr.getD 77 undef, arr.getD 78 undef, arr.getD 79 undef, arr.getD 80 undef, arr.getD 81 undef, arr.getD 82 undef, arr.getD 83 undef, arr.getD 84 undef, arr.getD 85 undef, arr.getD 86 undef, arr.getD 87 undef, arr.getD 88 undef, arr.getD 89 undef, arr.getD 90 undef, arr.getD 91 undef, arr.getD 92 undef, arr.getD 93 undef, arr.getD 94 undef, arr.getD 95 undef, arr.getD 96 undef, arr.getD 97 undef, arr.getD 98 undef, arr.getD 99 undef]) : BaseFTD b3 b5 b14 bg j o ai p qq c m k l q e k0 k1 k2 k3 data ps bl x y ⟨arr, []⟩ := ⟨fun i => arr.getD i undef, by rw [← h]⟩
theorem BaseFTD.put69 {b3 b5 b14 bg j o ai p qq c m : Nat} {k l q e k0 k1 k2 k3 : Int} {data ps bl x y : ByteArray} (a : Act) (v : Value) (h : BaseFTD b3 b5 b14 bg j o ai p qq c m k l q e k0 k1 k2 k3 data ps bl x y a) : BaseFTD b3 b5 b14 bg j o ai p qq c m k l q e k0 k1 k2 k3 data ps bl x y (a.put (some 69) v) := by
  obtain ⟨u, rfl⟩ := h
  exact ⟨fun i => if i = 69 then v else u i, by kernel_rfl⟩
theorem BaseFTD.put70 {b3 b5 b14 bg j o ai p qq c m : Nat} {k l q e k0 k1 k2 k3 : Int} {data ps bl x y : ByteArray} (a : Act) (v : Value) (h : BaseFTD b3 b5 b14 bg j o ai p qq c m k l q e k0 k1 k2 k3 data ps bl x y a) : BaseFTD b3 b5 b14 bg j o ai p qq c m k l q e k0 k1 k2 k3 data ps bl x y (a.put (some 70) v) := by
  obtain ⟨u, rfl⟩ := h
  exact ⟨fun i => if i = 70 then v else u i, by kernel_rfl⟩
theorem BaseFTD.put71 {b3 b5 b14 bg j o ai p qq c m : Nat} {k l q e k0 k1 k2 k3 : Int} {data ps bl x y : ByteArray} (a : Act) (v : Value) (h : BaseFTD b3 b5 b14 bg j o ai p qq c m k l q e k0 k1 k2 k3 data ps bl x y a) : BaseFTD b3 b5 b14 bg j o ai p qq c m k l q e k0 k1 k2 k3 data ps bl x y (a.put (some 71) v) := by
  obtain ⟨u, rfl⟩ := h
  exact ⟨fun i => if i = 71 then v else u i, by kernel_rfl⟩
theorem BaseFTD.put72 {b3 b5 b14 bg j o ai p qq c m : Nat} {k l q e k0 k1 k2 k3 : Int} {data ps bl x y : ByteArray} (a : Act) (v : Value) (h : BaseFTD b3 b5 b14 bg j o ai p qq c m k l q e k0 k1 k2 k3 data ps bl x y a) : BaseFTD b3 b5 b14 bg j o ai p qq c m k l q e k0 k1 k2 k3 data ps bl x y (a.put (some 72) v) := by
  obtain ⟨u, rfl⟩ := h
  exact ⟨fun i => if i = 72 then v else u i, by kernel_rfl⟩
theorem BaseFTD.put73 {b3 b5 b14 bg j o ai p qq c m : Nat} {k l q e k0 k1 k2 k3 : Int} {data ps bl x y : ByteArray} (a : Act) (v : Value) (h : BaseFTD b3 b5 b14 bg j o ai p qq c m k l q e k0 k1 k2 k3 data ps bl x y a) : BaseFTD b3 b5 b14 bg j o ai p qq c m k l q e k0 k1 k2 k3 data ps bl x y (a.put (some 73) v) := by
  obtain ⟨u, rfl⟩ := h
  exact ⟨fun i => if i = 73 then v else u i, by kernel_rfl⟩
theorem BaseFTD.put74 {b3 b5 b14 bg j o ai p qq c m : Nat} {k l q e k0 k1 k2 k3 : Int} {data ps bl x y : ByteArray} (a : Act) (v : Value) (h : BaseFTD b3 b5 b14 bg j o ai p qq c m k l q e k0 k1 k2 k3 data ps bl x y a) : BaseFTD b3 b5 b14 bg j o ai p qq c m k l q e k0 k1 k2 k3 data ps bl x y (a.put (some 74) v) := by
  obtain ⟨u, rfl⟩ := h
  exact ⟨fun i => if i = 74 then v else u i, by kernel_rfl⟩
theorem BaseFTD.put75 {b3 b5 b14 bg j o ai p qq c m : Nat} {k l q e k0 k1 k2 k3 : Int} {data ps bl x y : ByteArray} (a : Act) (v : Value) (h : BaseFTD b3 b5 b14 bg j o ai p qq c m k l q e k0 k1 k2 k3 data ps bl x y a) : BaseFTD b3 b5 b14 bg j o ai p qq c m k l q e k0 k1 k2 k3 data ps bl x y (a.put (some 75) v) := by
  obtain ⟨u, rfl⟩ := h
  exact ⟨fun i => if i = 75 then v else u i, by kernel_rfl⟩
theorem BaseFTD.put76 {b3 b5 b14 bg j o ai p qq c m : Nat} {k l q e k0 k1 k2 k3 : Int} {data ps bl x y : ByteArray} (a : Act) (v : Value) (h : BaseFTD b3 b5 b14 bg j o ai p qq c m k l q e k0 k1 k2 k3 data ps bl x y a) : BaseFTD b3 b5 b14 bg j o ai p qq c m k l q e k0 k1 k2 k3 data ps bl x y (a.put (some 76) v) := by
  obtain ⟨u, rfl⟩ := h
  exact ⟨fun i => if i = 76 then v else u i, by kernel_rfl⟩
theorem BaseFTD.put77 {b3 b5 b14 bg j o ai p qq c m : Nat} {k l q e k0 k1 k2 k3 : Int} {data ps bl x y : ByteArray} (a : Act) (v : Value) (h : BaseFTD b3 b5 b14 bg j o ai p qq c m k l q e k0 k1 k2 k3 data ps bl x y a) : BaseFTD b3 b5 b14 bg j o ai p qq c m k l q e k0 k1 k2 k3 data ps bl x y (a.put (some 77) v) := by
  obtain ⟨u, rfl⟩ := h
  exact ⟨fun i => if i = 77 then v else u i, by kernel_rfl⟩
theorem BaseFTD.put78 {b3 b5 b14 bg j o ai p qq c m : Nat} {k l q e k0 k1 k2 k3 : Int} {data ps bl x y : ByteArray} (a : Act) (v : Value) (h : BaseFTD b3 b5 b14 bg j o ai p qq c m k l q e k0 k1 k2 k3 data ps bl x y a) : BaseFTD b3 b5 b14 bg j o ai p qq c m k l q e k0 k1 k2 k3 data ps bl x y (a.put (some 78) v) := by
  obtain ⟨u, rfl⟩ := h
  exact ⟨fun i => if i = 78 then v else u i, by kernel_rfl⟩
theorem BaseFTD.put79 {b3 b5 b14 bg j o ai p qq c m : Nat} {k l q e k0 k1 k2 k3 : Int} {data ps bl x y : ByteArray} (a : Act) (v : Value) (h : BaseFTD b3 b5 b14 bg j o ai p qq c m k l q e k0 k1 k2 k3 data ps bl x y a) : BaseFTD b3 b5 b14 bg j o ai p qq c m k l q e k0 k1 k2 k3 data ps bl x y (a.put (some 79) v) := by
  obtain ⟨u, rfl⟩ := h
  exact ⟨fun i => if i = 79 then v else u i, by kernel_rfl⟩
theorem BaseFTD.put80 {b3 b5 b14 bg j o ai p qq c m : Nat} {k l q e k0 k1 k2 k3 : Int} {data ps bl x y : ByteArray} (a : Act) (v : Value) (h : BaseFTD b3 b5 b14 bg j o ai p qq c m k l q e k0 k1 k2 k3 data ps bl x y a) : BaseFTD b3 b5 b14 bg j o ai p qq c m k l q e k0 k1 k2 k3 data ps bl x y (a.put (some 80) v) := by
  obtain ⟨u, rfl⟩ := h
  exact ⟨fun i => if i = 80 then v else u i, by kernel_rfl⟩
theorem BaseFTD.put81 {b3 b5 b14 bg j o ai p qq c m : Nat} {k l q e k0 k1 k2 k3 : Int} {data ps bl x y : ByteArray} (a : Act) (v : Value) (h : BaseFTD b3 b5 b14 bg j o ai p qq c m k l q e k0 k1 k2 k3 data ps bl x y a) : BaseFTD b3 b5 b14 bg j o ai p qq c m k l q e k0 k1 k2 k3 data ps bl x y (a.put (some 81) v) := by
  obtain ⟨u, rfl⟩ := h
  exact ⟨fun i => if i = 81 then v else u i, by kernel_rfl⟩
theorem BaseFTD.put82 {b3 b5 b14 bg j o ai p qq c m : Nat} {k l q e k0 k1 k2 k3 : Int} {data ps bl x y : ByteArray} (a : Act) (v : Value) (h : BaseFTD b3 b5 b14 bg j o ai p qq c m k l q e k0 k1 k2 k3 data ps bl x y a) : BaseFTD b3 b5 b14 bg j o ai p qq c m k l q e k0 k1 k2 k3 data ps bl x y (a.put (some 82) v) := by
  obtain ⟨u, rfl⟩ := h
  exact ⟨fun i => if i = 82 then v else u i, by kernel_rfl⟩
theorem BaseFTD.put83 {b3 b5 b14 bg j o ai p qq c m : Nat} {k l q e k0 k1 k2 k3 : Int} {data ps bl x y : ByteArray} (a : Act) (v : Value) (h : BaseFTD b3 b5 b14 bg j o ai p qq c m k l q e k0 k1 k2 k3 data ps bl x y a) : BaseFTD b3 b5 b14 bg j o ai p qq c m k l q e k0 k1 k2 k3 data ps bl x y (a.put (some 83) v) := by
  obtain ⟨u, rfl⟩ := h
  exact ⟨fun i => if i = 83 then v else u i, by kernel_rfl⟩
theorem BaseFTD.put84 {b3 b5 b14 bg j o ai p qq c m : Nat} {k l q e k0 k1 k2 k3 : Int} {data ps bl x y : ByteArray} (a : Act) (v : Value) (h : BaseFTD b3 b5 b14 bg j o ai p qq c m k l q e k0 k1 k2 k3 data ps bl x y a) : BaseFTD b3 b5 b14 bg j o ai p qq c m k l q e k0 k1 k2 k3 data ps bl x y (a.put (some 84) v) := by
  obtain ⟨u, rfl⟩ := h
  exact ⟨fun i => if i = 84 then v else u i, by kernel_rfl⟩
theorem BaseFTD.put85 {b3 b5 b14 bg j o ai p qq c m : Nat} {k l q e k0 k1 k2 k3 : Int} {data ps bl x y : ByteArray} (a : Act) (v : Value) (h : BaseFTD b3 b5 b14 bg j o ai p qq c m k l q e k0 k1 k2 k3 data ps bl x y a) : BaseFTD b3 b5 b14 bg j o ai p qq c m k l q e k0 k1 k2 k3 data ps bl x y (a.put (some 85) v) := by
  obtain ⟨u, rfl⟩ := h
  exact ⟨fun i => if i = 85 then v else u i, by kernel_rfl⟩
theorem BaseFTD.put86 {b3 b5 b14 bg j o ai p qq c m : Nat} {k l q e k0 k1 k2 k3 : Int} {data ps bl x y : ByteArray} (a : Act) (v : Value) (h : BaseFTD b3 b5 b14 bg j o ai p qq c m k l q e k0 k1 k2 k3 data ps bl x y a) : BaseFTD b3 b5 b14 bg j o ai p qq c m k l q e k0 k1 k2 k3 data ps bl x y (a.put (some 86) v) := by
  obtain ⟨u, rfl⟩ := h
  exact ⟨fun i => if i = 86 then v else u i, by kernel_rfl⟩
theorem BaseFTD.put87 {b3 b5 b14 bg j o ai p qq c m : Nat} {k l q e k0 k1 k2 k3 : Int} {data ps bl x y : ByteArray} (a : Act) (v : Value) (h : BaseFTD b3 b5 b14 bg j o ai p qq c m k l q e k0 k1 k2 k3 data ps bl x y a) : BaseFTD b3 b5 b14 bg j o ai p qq c m k l q e k0 k1 k2 k3 data ps bl x y (a.put (some 87) v) := by
  obtain ⟨u, rfl⟩ := h
  exact ⟨fun i => if i = 87 then v else u i, by kernel_rfl⟩
theorem BaseFTD.put88 {b3 b5 b14 bg j o ai p qq c m : Nat} {k l q e k0 k1 k2 k3 : Int} {data ps bl x y : ByteArray} (a : Act) (v : Value) (h : BaseFTD b3 b5 b14 bg j o ai p qq c m k l q e k0 k1 k2 k3 data ps bl x y a) : BaseFTD b3 b5 b14 bg j o ai p qq c m k l q e k0 k1 k2 k3 data ps bl x y (a.put (some 88) v) := by
  obtain ⟨u, rfl⟩ := h
  exact ⟨fun i => if i = 88 then v else u i, by kernel_rfl⟩
theorem BaseFTD.put89 {b3 b5 b14 bg j o ai p qq c m : Nat} {k l q e k0 k1 k2 k3 : Int} {data ps bl x y : ByteArray} (a : Act) (v : Value) (h : BaseFTD b3 b5 b14 bg j o ai p qq c m k l q e k0 k1 k2 k3 data ps bl x y a) : BaseFTD b3 b5 b14 bg j o ai p qq c m k l q e k0 k1 k2 k3 data ps bl x y (a.put (some 89) v) := by
  obtain ⟨u, rfl⟩ := h
  exact ⟨fun i => if i = 89 then v else u i, by kernel_rfl⟩
theorem BaseFTD.put90 {b3 b5 b14 bg j o ai p qq c m : Nat} {k l q e k0 k1 k2 k3 : Int} {data ps bl x y : ByteArray} (a : Act) (v : Value) (h : BaseFTD b3 b5 b14 bg j o ai p qq c m k l q e k0 k1 k2 k3 data ps bl x y a) : BaseFTD b3 b5 b14 bg j o ai p qq c m k l q e k0 k1 k2 k3 data ps bl x y (a.put (some 90) v) := by
  obtain ⟨u, rfl⟩ := h
  exact ⟨fun i => if i = 90 then v else u i, by kernel_rfl⟩
theorem BaseFTD.put91 {b3 b5 b14 bg j o ai p qq c m : Nat} {k l q e k0 k1 k2 k3 : Int} {data ps bl x y : ByteArray} (a : Act) (v : Value) (h : BaseFTD b3 b5 b14 bg j o ai p qq c m k l q e k0 k1 k2 k3 data ps bl x y a) : BaseFTD b3 b5 b14 bg j o ai p qq c m k l q e k0 k1 k2 k3 data ps bl x y (a.put (some 91) v) := by
  obtain ⟨u, rfl⟩ := h
  exact ⟨fun i => if i = 91 then v else u i, by kernel_rfl⟩
theorem BaseFTD.put92 {b3 b5 b14 bg j o ai p qq c m : Nat} {k l q e k0 k1 k2 k3 : Int} {data ps bl x y : ByteArray} (a : Act) (v : Value) (h : BaseFTD b3 b5 b14 bg j o ai p qq c m k l q e k0 k1 k2 k3 data ps bl x y a) : BaseFTD b3 b5 b14 bg j o ai p qq c m k l q e k0 k1 k2 k3 data ps bl x y (a.put (some 92) v) := by
  obtain ⟨u, rfl⟩ := h
  exact ⟨fun i => if i = 92 then v else u i, by kernel_rfl⟩
theorem BaseFTD.put93 {b3 b5 b14 bg j o ai p qq c m : Nat} {k l q e k0 k1 k2 k3 : Int} {data ps bl x y : ByteArray} (a : Act) (v : Value) (h : BaseFTD b3 b5 b14 bg j o ai p qq c m k l q e k0 k1 k2 k3 data ps bl x y a) : BaseFTD b3 b5 b14 bg j o ai p qq c m k l q e k0 k1 k2 k3 data ps bl x y (a.put (some 93) v) := by
  obtain ⟨u, rfl⟩ := h
  exact ⟨fun i => if i = 93 then v else u i, by kernel_rfl⟩
theorem BaseFTD.put94 {b3 b5 b14 bg j o ai p qq c m : Nat} {k l q e k0 k1 k2 k3 : Int} {data ps bl x y : ByteArray} (a : Act) (v : Value) (h : BaseFTD b3 b5 b14 bg j o ai p qq c m k l q e k0 k1 k2 k3 data ps bl x y a) : BaseFTD b3 b5 b14 bg j o ai p qq c m k l q e k0 k1 k2 k3 data ps bl x y (a.put (some 94) v) := by
  obtain ⟨u, rfl⟩ := h
  exact ⟨fun i => if i = 94 then v else u i, by kernel_rfl⟩
theorem BaseFTD.put95 {b3 b5 b14 bg j o ai p qq c m : Nat} {k l q e k0 k1 k2 k3 : Int} {data ps bl x y : ByteArray} (a : Act) (v : Value) (h : BaseFTD b3 b5 b14 bg j o ai p qq c m k l q e k0 k1 k2 k3 data ps bl x y a) : BaseFTD b3 b5 b14 bg j o ai p qq c m k l q e k0 k1 k2 k3 data ps bl x y (a.put (some 95) v) := by
  obtain ⟨u, rfl⟩ := h
  exact ⟨fun i => if i = 95 then v else u i, by kernel_rfl⟩
theorem BaseFTD.put96 {b3 b5 b14 bg j o ai p qq c m : Nat} {k l q e k0 k1 k2 k3 : Int} {data ps bl x y : ByteArray} (a : Act) (v : Value) (h : BaseFTD b3 b5 b14 bg j o ai p qq c m k l q e k0 k1 k2 k3 data ps bl x y a) : BaseFTD b3 b5 b14 bg j o ai p qq c m k l q e k0 k1 k2 k3 data ps bl x y (a.put (some 96) v) := by
  obtain ⟨u, rfl⟩ := h
  exact ⟨fun i => if i = 96 then v else u i, by kernel_rfl⟩
theorem BaseFTD.put97 {b3 b5 b14 bg j o ai p qq c m : Nat} {k l q e k0 k1 k2 k3 : Int} {data ps bl x y : ByteArray} (a : Act) (v : Value) (h : BaseFTD b3 b5 b14 bg j o ai p qq c m k l q e k0 k1 k2 k3 data ps bl x y a) : BaseFTD b3 b5 b14 bg j o ai p qq c m k l q e k0 k1 k2 k3 data ps bl x y (a.put (some 97) v) := by
  obtain ⟨u, rfl⟩ := h
  exact ⟨fun i => if i = 97 then v else u i, by kernel_rfl⟩
theorem BaseFTD.put98 {b3 b5 b14 bg j o ai p qq c m : Nat} {k l q e k0 k1 k2 k3 : Int} {data ps bl x y : ByteArray} (a : Act) (v : Value) (h : BaseFTD b3 b5 b14 bg j o ai p qq c m k l q e k0 k1 k2 k3 data ps bl x y a) : BaseFTD b3 b5 b14 bg j o ai p qq c m k l q e k0 k1 k2 k3 data ps bl x y (a.put (some 98) v) := by
  obtain ⟨u, rfl⟩ := h
  exact ⟨fun i => if i = 98 then v else u i, by kernel_rfl⟩

/-- what each operation of the region FTE leaves -/
def vsFTE (b5 o ai : Nat) (k1 k2 : Int) (x y h : ByteArray) : List (Option (Tmp × Value)) :=
  [some (69, .string y), some (70, .agg bad0), some (71, .agg bad0), some (72, .bool false), some (73, .bool false), some (74, .int .i64 (o : Nat)), some (75, .int .i64 (ai : Nat)), some (76, .bool false), some (77, .bool false), some (78, undef), some (79, undef), some (80, undef), some (81, undef), some (82, undef), some (83, undef), some (84, undef), some (85, undef), some (86, .bool false), some (87, .bool false), some (88, .bool false), some (89, .string x), some (90, .pointer (some ⟨b5, 1, none⟩)), some (91, .int .i64 k1), some (92, .pointer (some ⟨b5, 2, none⟩)), some (93, .int .i64 k2), some (94, .string h), some (95, .agg bad0), some (96, .agg bad0), some (97, .bool false), some (98, .bool false)]
/-- the frame while the region FTE runs -/
def BaseFTE (b3 b5 b14 bg j o ai p qq c m : Nat) (k l q e k0 k1 k2 k3 : Int) (data ps bl x y : ByteArray) (a : Act) : Prop := ∃ u : Nat → Value, a = ⟨#[.agg (ta k l q e), .string data, .agg (ta k0 k1 k2 k3), .pointer (some ⟨b3, 0, none⟩), undef, .pointer (some ⟨b5, 0, none⟩), u 6, .string ps, .int .i64 0, .int .i64 (c : Nat), .int .i64 (ai : Nat), .int .i64 (o : Nat), .int .i64 (p : Nat), .int .i64 (qq : Nat), .pointer (some ⟨b14, 0, none⟩), undef, .string x, .string y, .bool true, .bool false, .tuple #[.string ps, .int .i64 0], .agg (ta k l q e), .string data, .tuple #[.string ps, .int .i64 0], .string ps, .int .i64 0, .int .i64 0, .bool false, undef, undef, .string ps, .int .i64 (ps.size : Nat), .int .i64 (c : Nat), .pointer (some ⟨b5, 0, none⟩), .int .i64 k0, .int .i64 (c : Nat), .int .i64 (ai : Nat), .pointer (some ⟨b5, 3, none⟩), .int .i64 k3, .int .i64 (c : Nat), .int .i64 (o : Nat), .pointer (some ⟨b5, 1, none⟩), .int .i64 k1, .int .i64 (p : Nat), .int .i64 (p : Nat), .int .i64 ((p : Int) + 1), .pointer (some ⟨b5, 2, none⟩), .int .i64 k2, .int .i64 (m : Nat), .int .i64 ((p : Int) + 1 + (m : Int)), .int .i64 (qq : Nat), .agg #[.int .i64 4, .int .i64 0, .int .i64 0, .int .i64 0, .int .i64 0, .string { data := #[] }], .string ps, .string data, .int .i64 (data.size : Nat), .string bl, .slice (some ⟨bg, 0, none⟩) 2 2, .int .i64 2, .int .i64 (j : Nat), u 59, u 60, u 61, u 62, u 63, u 64, u 65, u 66, u 67, u 68, u 69, u 70, u 71, u 72, u 73, u 74, u 75, u 76, u 77, u 78, u 79, u 80, u 81, u 82, u 83, u 84, u 85, u 86, u 87, u 88, u 89, u 90, u 91, u 92, u 93, u 94, u 95, u 96, u 97, u 98, u 99], []⟩
theorem BaseFTE.of {b3 b5 b14 bg j o ai p qq c m : Nat} {k l q e k0 k1 k2 k3 : Int} {data ps bl x y : ByteArray} (arr : Array Value) (h : arr = #[.agg (ta k l q e), .string data, .agg (ta k0 k1 k2 k3), .pointer (some ⟨b3, 0, none⟩), undef, .pointer (some ⟨b5, 0, none⟩), arr.getD 6 undef, .string ps, .int .i64 0, .int .i64 (c : Nat), .int .i64 (ai : Nat), .int .i64 (o : Nat), .int .i64 (p : Nat), .int .i64 (qq : Nat), .pointer (some ⟨b14, 0, none⟩), undef, .string x, .string y, .bool true, .bool false, .tuple #[.string ps, .int .i64 0], .agg (ta k l q e), .string data, .tuple #[.string ps, .int .i64 0], .string ps, .int .i64 0, .int .i64 0, .bool false, undef, undef, .string ps, .int .i64 (ps.size : Nat), .int .i64 (c : Nat), .pointer (some ⟨b5, 0, none⟩), .int .i64 k0, .int .i64 (c : Nat), .int .i64 (ai : Nat), .pointer (some ⟨b5, 3, none⟩), .int .i64 k3, .int .i64 (c : Nat), .int .i64 (o : Nat), .pointer (some ⟨b5, 1, none⟩), .int .i64 k1, .int .i64 (p : Nat), .int .i64 (p : Nat), .int .i64 ((p : Int) + 1), .pointer (some ⟨b5, 2, none⟩), .int .i64 k2, .int .i64 (m : Nat), .int .i64 ((p : Int) + 1 + (m : Int)), .int .i64 (qq : Nat), .agg #[.int .i64 4, .int .i64 0, .int .i64 0, .int .i64 0, .int .i64 0, .string { data := #[] }], .string ps, .string data, .int .i64 (data.size : Nat), .string bl, .slice (some ⟨bg, 0, none⟩) 2 2, .int .i64 2, .int .i64 (j : Nat), arr.getD 59 undef, arr.getD 60 undef, arr.getD 61 undef, arr.getD 62 undef, arr.getD 63 undef, arr.getD 64 undef, arr.getD 65 undef, arr.getD 66 undef, arr.getD 67 undef, arr.getD 68 undef, arr.getD 69 undef, arr.getD 70 undef, arr.getD 71 undef, arr.getD 72 undef, arr.getD 73 undef, arr.getD 74 undef, arr.getD 75 undef, arr.getD 76 undef, arr.getD 77 undef, arr.getD 78 undef, arr.getD 79 undef, arr.getD 80 undef, arr.getD 81 undef, arr.getD 82 undef, arr.getD 83 undef, arr.getD 84 undef, arr.getD 85 undef, arr.getD 86 undef, arr.getD 87 undef, arr.getD 88 undef, arr.getD 89 undef, arr.getD 90 undef, arr.getD 91 undef, arr.getD 92 undef, arr.getD 93 undef, arr.getD 94 undef, arr.getD 95 undef, arr.getD 96 undef, arr.getD 97 undef, arr.getD 98 undef, arr.getD 99 undef]) : BaseFTE b3 b5 b14 bg j o ai p qq c m k l q e k0 k1 k2 k3 data ps bl x y ⟨arr, []⟩ := ⟨fun i => arr.getD i undef, by rw [← h]⟩
theorem BaseFTE.put69 {b3 b5 b14 bg j o ai p qq c m : Nat} {k l q e k0 k1 k2 k3 : Int} {data ps bl x y : ByteArray} (a : Act) (v : Value) (h : BaseFTE b3 b5 b14 bg j o ai p qq c m k l q e k0 k1 k2 k3 data ps bl x y a) : BaseFTE b3 b5 b14 bg j o ai p qq c m k l q e k0 k1 k2 k3 data ps bl x y (a.put (some 69) v) := by
  obtain ⟨u, rfl⟩ := h
  exact ⟨fun i => if i = 69 then v else u i, by kernel_rfl⟩
theorem BaseFTE.put70 {b3 b5 b14 bg j o ai p qq c m : Nat} {k l q e k0 k1 k2 k3 : Int} {data ps bl x y : ByteArray} (a : Act) (v : Value) (h : BaseFTE b3 b5 b14 bg j o ai p qq c m k l q e k0 k1 k2 k3 data ps bl x y a) : BaseFTE b3 b5 b14 bg j o ai p qq c m k l q e k0 k1 k2 k3 data ps bl x y (a.put (some 70) v) := by
  obtain ⟨u, rfl⟩ := h
  exact ⟨fun i => if i = 70 then v else u i, by kernel_rfl⟩
theorem BaseFTE.put71 {b3 b5 b14 bg j o ai p qq c m : Nat} {k l q e k0 k1 k2 k3 : Int} {data ps bl x y : ByteArray} (a : Act) (v : Value) (h : BaseFTE b3 b5 b14 bg j o ai p qq c m k l q e k0 k1 k2 k3 data ps bl x y a) : BaseFTE b3 b5 b14 bg j o ai p qq c m k l q e k0 k1 k2 k3 data ps bl x y (a.put (some 71) v) := by
  obtain ⟨u, rfl⟩ := h
  exact ⟨fun i => if i = 71 then v else u i, by kernel_rfl⟩
theorem BaseFTE.put72 {b3 b5 b14 bg j o ai p qq c m : Nat} {k l q e k0 k1 k2 k3 : Int} {data ps bl x y : ByteArray} (a : Act) (v : Value) (h : BaseFTE b3 b5 b14 bg j o ai p qq c m k l q e k0 k1 k2 k3 data ps bl x y a) : BaseFTE b3 b5 b14 bg j o ai p qq c m k l q e k0 k1 k2 k3 data ps bl x y (a.put (some 72) v) := by
  obtain ⟨u, rfl⟩ := h
  exact ⟨fun i => if i = 72 then v else u i, by kernel_rfl⟩
theorem BaseFTE.put73 {b3 b5 b14 bg j o ai p qq c m : Nat} {k l q e k0 k1 k2 k3 : Int} {data ps bl x y : ByteArray} (a : Act) (v : Value) (h : BaseFTE b3 b5 b14 bg j o ai p qq c m k l q e k0 k1 k2 k3 data ps bl x y a) : BaseFTE b3 b5 b14 bg j o ai p qq c m k l q e k0 k1 k2 k3 data ps bl x y (a.put (some 73) v) := by
  obtain ⟨u, rfl⟩ := h
  exact ⟨fun i => if i = 73 then v else u i, by kernel_rfl⟩
theorem BaseFTE.put74 {b3 b5 b14 bg j o ai p qq c m : Nat} {k l q e k0 k1 k2 k3 : Int} {data ps bl x y : ByteArray} (a : Act) (v : Value) (h : BaseFTE b3 b5 b14 bg j o ai p qq c m k l q e k0 k1 k2 k3 data ps bl x y a) : BaseFTE b3 b5 b14 bg j o ai p qq c m k l q e k0 k1 k2 k3 data ps bl x y (a.put (some 74) v) := by
  obtain ⟨u, rfl⟩ := h
  exact ⟨fun i => if i = 74 then v else u i, by kernel_rfl⟩
theorem BaseFTE.put75 {b3 b5 b14 bg j o ai p qq c m : Nat} {k l q e k0 k1 k2 k3 : Int} {data ps bl x y : ByteArray} (a : Act) (v : Value) (h : BaseFTE b3 b5 b14 bg j o ai p qq c m k l q e k0 k1 k2 k3 data ps bl x y a) : BaseFTE b3 b5 b14 bg j o ai p qq c m k l q e k0 k1 k2 k3 data ps bl x y (a.put (some 75) v) := by
  obtain ⟨u, rfl⟩ := h
  exact ⟨fun i => if i = 75 then v else u i, by kernel_rfl⟩
theorem BaseFTE.put76 {b3 b5 b14 bg j o ai p qq c m : Nat} {k l q e k0 k1 k2 k3 : Int} {data ps bl x y : ByteArray} (a : Act) (v : Value) (h : BaseFTE b3 b5 b14 bg j o ai p qq c m k l q e k0 k1 k2 k3 data ps bl x y a) : BaseFTE b3 b5 b14 bg j o ai p qq c m k l q e k0 k1 k2 k3 data ps bl x y (a.put (some 76) v) := by
  obtain ⟨u, rfl⟩ := h
  exact ⟨fun i => if i = 76 then v else u i, by kernel_rfl⟩
theorem BaseFTE.put77 {b3 b5 b14 bg j o ai p qq c m : Nat} {k l q e k0 k1 k2 k3 : Int} {data ps bl x y : ByteArray} (a : Act) (v : Value) (h : BaseFTE b3 b5 b14 bg j o ai p qq c m k l q e k0 k1 k2 k3 data ps bl x y a) : BaseFTE b3 b5 b14 bg j o ai p qq c m k l q e k0 k1 k2 k3 data ps bl x y (a.put (some 77) v) := by
  obtain ⟨u, rfl⟩ := h
  exact ⟨fun i => if i = 77 then v else u i, by kernel_rfl⟩
theorem BaseFTE.put78 {b3 b5 b14 bg j o ai p qq c m : Nat} {k l q e k0 k1 k2 k3 : Int} {data ps bl x y : ByteArray} (a : Act) (v : Value) (h : BaseFTE b3 b5 b14 bg j o ai p qq c m k l q e k0 k1 k2 k3 data ps bl x y a) : BaseFTE b3 b5 b14 bg j o ai p qq c m k l q e k0 k1 k2 k3 data ps bl x y (a.put (some 78) v) := by
  obtain ⟨u, rfl⟩ := h
  exact ⟨fun i => if i = 78 then v else u i, by kernel_rfl⟩
theorem BaseFTE.put79 {b3 b5 b14 bg j o ai p qq c m : Nat} {k l q e k0 k1 k2 k3 : Int} {data ps bl x y : ByteArray} (a : Act) (v : Value) (h : BaseFTE b3 b5 b14 bg j o ai p qq c m k l q e k0 k1 k2 k3 data ps bl x y a) : BaseFTE b3 b5 b14 bg j o ai p qq c m k l q e k0 k1 k2 k3 data ps bl x y (a.put (some 79) v) := by
  obtain ⟨u, rfl⟩ := h
  exact ⟨fun i => if i = 79 then v else u i, by kernel_rfl⟩
theorem BaseFTE.put80 {b3 b5 b14 bg j o ai p qq c m : Nat} {k l q e k0 k1 k2 k3 : Int} {data ps bl x y : ByteArray} (a : Act) (v : Value) (h : BaseFTE b3 b5 b14 bg j o ai p qq c m k l q e k0 k1 k2 k3 data ps bl x y a) : BaseFTE b3 b5 b14 bg j o ai p qq c m k l q e k0 k1 k2 k3 data ps bl x y (a.put (some 80) v) := by
  obtain ⟨u, rfl⟩ := h
  exact ⟨fun i => if i = 80 then v else u i, by kernel_rfl⟩
theorem BaseFTE.put81 {b3 b5 b14 bg j o ai p qq c m : Nat} {k l q e k0 k1 k2 k3 : Int} {data ps bl x y : ByteArray} (a : Act) (v : Value) (h : BaseFTE b3 b5 b14 bg j o ai p qq c m k l q e k0 k1 k2 k3 data ps bl x y a) : BaseFTE b3 b5 b14 bg j o ai p qq c m k l q e k0 k1 k2 k3 data ps bl x y (a.put (some 81) v) := by
  obtain ⟨u, rfl⟩ := h
  exact ⟨fun i => if i = 81 then v else u i, by kernel_rfl⟩
theorem BaseFTE.put82 {b3 b5 b14 bg j o ai p qq c m : Nat} {k l q e k0 k1 k2 k3 : Int} {data ps bl x y : ByteArray} (a : Act) (v : Value) (h : BaseFTE b3 b5 b14 bg j o ai p qq c m k l q e k0 k1 k2 k3 data ps bl x y a) : BaseFTE b3 b5 b14 bg j o ai p qq c m k l q e k0 k1 k2 k3 data ps bl x y (a.put (some 82) v) := by
  obtain ⟨u, rfl⟩ := h
  exact ⟨fun i => if i = 82 then v else u i, by kernel_rfl⟩
theorem BaseFTE.put83 {b3 b5 b14 bg j o ai p qq c m : Nat} {k l q e k0 k1 k2 k3 : Int} {data ps bl x y : ByteArray} (a : Act) (v : Value) (h : BaseFTE b3 b5 b14 bg j o ai p qq c m k l q e k0 k1 k2 k3 data ps bl x y a) : BaseFTE b3 b5 b14 bg j o ai p qq c m k l q e k0 k1 k2 k3 data ps bl x y (a.put (some 83) v) := by
  obtain ⟨u, rfl⟩ := h
  exact ⟨fun i => if i = 83 then v else u i, by kernel_rfl⟩
theorem BaseFTE.put84 {b3 b5 b14 bg j o ai p qq c m : Nat} {k l q e k0 k1 k2 k3 : Int} {data ps bl x y : ByteArray} (a : Act) (v : Value) (h : BaseFTE b3 b5 b14 bg j o ai p qq c m k l q e k0 k1 k2 k3 data ps bl x y a) : BaseFTE b3 b5 b14 bg j o ai p qq c m k l q e k0 k1 k2 k3 data ps bl x y (a.put (some 84) v) := by
  obtain ⟨u, rfl⟩ := h
  exact ⟨fun i => if i = 84 then v else u i, by kernel_rfl⟩
theorem BaseFTE.put85 {b3 b5 b14 bg j o ai p qq c m : Nat} {k l q e k0 k1 k2 k3 : Int} {data ps bl x y : ByteArray} (a : Act) (v : Value) (h : BaseFTE b3 b5 b14 bg j o ai p qq c m k l q e k0 k1 k2 k3 data ps bl x y a) : BaseFTE b3 b5 b14 bg j o ai p qq c m k l q e k0 k1 k2 k3 data ps bl x y (a.put (some 85) v) := by
  obtain ⟨u, rfl⟩ := h
  exact ⟨fun i => if i = 85 then v else u i, by kernel_rfl⟩
theorem BaseFTE.put86 {b3 b5 b14 bg j o ai p qq c m : Nat} {k l q e k0 k1 k2 k3 : Int} {data ps bl x y : ByteArray} (a : Act) (v : Value) (h : BaseFTE b3 b5 b14 bg j o ai p qq c m k l q e k0 k1 k2 k3 data ps bl x y a) : BaseFTE b3 b5 b14 bg j o ai p qq c m k l q e k0 k1 k2 k3 data ps bl x y (a.put (some 86) v) := by
  obtain ⟨u, rfl⟩ := h
  exact ⟨fun i => if i = 86 then v else u i, by kernel_rfl⟩
theorem BaseFTE.put87 {b3 b5 b14 bg j o ai p qq c m : Nat} {k l q e k0 k1 k2 k3 : Int} {data ps bl x y : ByteArray} (a : Act) (v : Value) (h : BaseFTE b3 b5 b14 bg j o ai p qq c m k l q e k0 k1 k2 k3 data ps bl x y a) : BaseFTE b3 b5 b14 bg j o ai p qq c m k l q e k0 k1 k2 k3 data ps bl x y (a.put (some 87) v) := by
  obtain ⟨u, rfl⟩ := h
  exact ⟨fun i => if i = 87 then v else u i, by kernel_rfl⟩
theorem BaseFTE.put88 {b3 b5 b14 bg j o ai p qq c m : Nat} {k l q e k0 k1 k2 k3 : Int} {data ps bl x y : ByteArray} (a : Act) (v : Value) (h : BaseFTE b3 b5 b14 bg j o ai p qq c m k l q e k0 k1 k2 k3 data ps bl x y a) : BaseFTE b3 b5 b14 bg j o ai p qq c m k l q e k0 k1 k2 k3 data ps bl x y (a.put (some 88) v) := by
  obtain ⟨u, rfl⟩ := h
  exact ⟨fun i => if i = 88 then v else u i, by kernel_rfl⟩
theorem BaseFTE.put89 {b3 b5 b14 bg j o ai p qq c m : Nat} {k l q e k0 k1 k2 k3 : Int} {data ps bl x y : ByteArray} (a : Act) (v : Value) (h : BaseFTE b3 b5 b14 bg j o ai p qq c m k l q e k0 k1 k2 k3 data ps bl x y a) : BaseFTE b3 b5 b14 bg j o ai p qq c m k l q e k0 k1 k2 k3 data ps bl x y (a.put (some 89) v) := by
  obtain ⟨u, rfl⟩ := h
  exact ⟨fun i => if i = 89 then v else u i, by kernel_rfl⟩
theorem BaseFTE.put90 {b3 b5 b14 bg j o ai p qq c m : Nat} {k l q e k0 k1 k2 k3 : Int} {data ps bl x y : ByteArray} (a : Act) (v : Value) (h : BaseFTE b3 b5 b14 bg j o ai p qq c m k l q e k0 k1 k2 k3 data ps bl x y a) : BaseFTE b3 b5 b14 bg j o ai p qq c m k l q e k0 k1 k2 k3 data ps bl x y (a.put (some 90) v) := by
  obtain ⟨u, rfl⟩ := h
  exact ⟨fun i => if i = 90 then v else u i, by kernel_rfl⟩
theorem BaseFTE.put91 {b3 b5 b14 bg j o ai p qq c m : Nat} {k l q e k0 k1 k2 k3 : Int} {data ps bl x y : ByteArray} (a : Act) (v : Value) (h : BaseFTE b3 b5 b14 bg j o ai p qq c m k l q e k0 k1 k2 k3 data ps bl x y a) : BaseFTE b3 b5 b14 bg j o ai p qq c m k l q e k0 k1 k2 k3 data ps bl x y (a.put (some 91) v) := by
  obtain ⟨u, rfl⟩ := h
  exact ⟨fun i => if i = 91 then v else u i, by kernel_rfl⟩
theorem BaseFTE.put92 {b3 b5 b14 bg j o ai p qq c m : Nat} {k l q e k0 k1 k2 k3 : Int} {data ps bl x y : ByteArray} (a : Act) (v : Value) (h : BaseFTE b3 b5 b14 bg j o ai p qq c m k l q e k0 k1 k2 k3 data ps bl x y a) : BaseFTE b3 b5 b14 bg j o ai p qq c m k l q e k0 k1 k2 k3 data ps bl x y (a.put (some 92) v) := by
  obtain ⟨u, rfl⟩ := h
  exact ⟨fun i => if i = 92 then v else u i, by kernel_rfl⟩
theorem BaseFTE.put93 {b3 b5 b14 bg j o ai p qq c m : Nat} {k l q e k0 k1 k2 k3 : Int} {data ps bl x y : ByteArray} (a : Act) (v : Value) (h : BaseFTE b3 b5 b14 bg j o ai p qq c m k l q e k0 k1 k2 k3 data ps bl x y a) : BaseFTE b3 b5 b14 bg j o ai p qq c m k l q e k0 k1 k2 k3 data ps bl x y (a.put (some 93) v) := by
  obtain ⟨u, rfl⟩ := h
  exact ⟨fun i => if i = 93 then v else u i, by kernel_rfl⟩
theorem BaseFTE.put94 {b3 b5 b14 bg j o ai p qq c m : Nat} {k l q e k0 k1 k2 k3 : Int} {data ps bl x y : ByteArray} (a : Act) (v : Value) (h : BaseFTE b3 b5 b14 bg j o ai p qq c m k l q e k0 k1 k2 k3 data ps bl x y a) : BaseFTE b3 b5 b14 bg j o ai p qq c m k l q e k0 k1 k2 k3 data ps bl x y (a.put (some 94) v) := by
  obtain ⟨u, rfl⟩ := h
  exact ⟨fun i => if i = 94 then v else u i, by kernel_rfl⟩
theorem BaseFTE.put95 {b3 b5 b14 bg j o ai p qq c m : Nat} {k l q e k0 k1 k2 k3 : Int} {data ps bl x y : ByteArray} (a : Act) (v : Value) (h : BaseFTE b3 b5 b14 bg j o ai p qq c m k l q e k0 k1 k2 k3 data ps bl x y a) : BaseFTE b3 b5 b14 bg j o ai p qq c m k l q e k0 k1 k2 k3 data ps bl x y (a.put (some 95) v) := by
  obtain ⟨u, rfl⟩ := h
  exact ⟨fun i => if i = 95 then v else u i, by kernel_rfl⟩
theorem BaseFTE.put96 {b3 b5 b14 bg j o ai p qq c m : Nat} {k l q e k0 k1 k2 k3 : Int} {data ps bl x y : ByteArray} (a : Act) (v : Value) (h : BaseFTE b3 b5 b14 bg j o ai p qq c m k l q e k0 k1 k2 k3 data ps bl x y a) : BaseFTE b3 b5 b14 bg j o ai p qq c m k l q e k0 k1 k2 k3 data ps bl x y (a.put (some 96) v) := by
  obtain ⟨u, rfl⟩ := h
  exact ⟨fun i => if i = 96 then v else u i, by kernel_rfl⟩
theorem BaseFTE.put97 {b3 b5 b14 bg j o ai p qq c m : Nat} {k l q e k0 k1 k2 k3 : Int} {data ps bl x y : ByteArray} (a : Act) (v : Value) (h : BaseFTE b3 b5 b14 bg j o ai p qq c m k l q e k0 k1 k2 k3 data ps bl x y a) : BaseFTE b3 b5 b14 bg j o ai p qq c m k l q e k0 k1 k2 k3 data ps bl x y (a.put (some 97) v) := by
  obtain ⟨u, rfl⟩ := h
  exact ⟨fun i => if i = 97 then v else u i, by kernel_rfl⟩
theorem BaseFTE.put98 {b3 b5 b14 bg j o ai p qq c m : Nat} {k l q e k0 k1 k2 k3 : Int} {data ps bl x y : ByteArray} (a : Act) (v : Value) (h : BaseFTE b3 b5 b14 bg j o ai p qq c m k l q e k0 k1 k2 k3 data ps bl x y a) : BaseFTE b3 b5 b14 bg j o ai p qq c m k l q e k0 k1 k2 k3 data ps bl x y (a.put (some 98) v) := by
  obtain ⟨u, rfl⟩ := h
  exact ⟨fun i => if i = 98 then v else u i, by kernel_rfl⟩

end Go.Proofs.YtlacmfacigfioaaDoor
