/- The reference of layer 6, walked: Bound, Has, Number. -/
import Derived.Test.YtejgdaekomdhlaaGeR6
namespace Go.Proofs.Ytejgdaekomdhlaa
set_option maxRecDepth 100000
open Go.RowKit

theorem size_addr : (Try.prog.info? 30).map (·.size) = some 3 := by kernel_rfl
/-- what each operation of the region GB leaves -/
def vsGB (B : Nat) (b l y n s r k : Int) : List (Option (Tmp × Value)) :=
  [some (3, .pointer (some ⟨B, 0, none⟩)), some (4, .int .i64 b), some (5, .pointer (some ⟨B, 4, none⟩)), some (6, .int .i64 s), some (7, .int .i64 (b + s)), some (8, .int .i64 (b + s + 4)), some (9, .int .i64 (8 * (b + s + 4))), some (10, .pointer (some ⟨B, 1, none⟩)), some (11, .int .i64 l), some (12, .int .i64 (16 * l)), some (13, .pointer (some ⟨B, 3, none⟩)), some (14, .int .i64 n), some (15, .int .i64 (16 * l + n)), some (16, .agg (gv b l y n s r)), some (17, .int .i64 k), some (18, .int .i64 (2 * k)), some (19, .int .i64 (16 * l + n + 2 * k)), some (20, .int .i64 (16 * l + n + 2 * k + 16)), some (21, .int .i64 (8 * (b + s + 4) * (16 * l + n + 2 * k + 16))), some (2, .int .i64 (8 * (b + s + 4) * (16 * l + n + 2 * k + 16)))]
/-- the frame while the region GB runs -/
def BaseGB (B : Nat) (a : Act) : Prop := ∃ u : Nat → Value, a = ⟨#[u 0, .pointer (some ⟨B, 0, none⟩), u 2, u 3, u 4, u 5, u 6, u 7, u 8, u 9, u 10, u 11, u 12, u 13, u 14, u 15, u 16, u 17, u 18, u 19, u 20, u 21], []⟩
theorem BaseGB.of {B : Nat} (arr : Array Value) (h : arr = #[arr.getD 0 undef, .pointer (some ⟨B, 0, none⟩), arr.getD 2 undef, arr.getD 3 undef, arr.getD 4 undef, arr.getD 5 undef, arr.getD 6 undef, arr.getD 7 undef, arr.getD 8 undef, arr.getD 9 undef, arr.getD 10 undef, arr.getD 11 undef, arr.getD 12 undef, arr.getD 13 undef, arr.getD 14 undef, arr.getD 15 undef, arr.getD 16 undef, arr.getD 17 undef, arr.getD 18 undef, arr.getD 19 undef, arr.getD 20 undef, arr.getD 21 undef]) : BaseGB B ⟨arr, []⟩ := ⟨fun i => arr.getD i undef, by rw [← h]⟩
theorem BaseGB.put3 {B : Nat} (a : Act) (v : Value) (h : BaseGB B a) : BaseGB B (a.put (some 3) v) := by
  obtain ⟨u, rfl⟩ := h
  exact ⟨fun i => if i = 3 then v else u i, by kernel_rfl⟩
theorem BaseGB.put4 {B : Nat} (a : Act) (v : Value) (h : BaseGB B a) : BaseGB B (a.put (some 4) v) := by
  obtain ⟨u, rfl⟩ := h
  exact ⟨fun i => if i = 4 then v else u i, by kernel_rfl⟩
theorem BaseGB.put5 {B : Nat} (a : Act) (v : Value) (h : BaseGB B a) : BaseGB B (a.put (some 5) v) := by
  obtain ⟨u, rfl⟩ := h
  exact ⟨fun i => if i = 5 then v else u i, by kernel_rfl⟩
theorem BaseGB.put6 {B : Nat} (a : Act) (v : Value) (h : BaseGB B a) : BaseGB B (a.put (some 6) v) := by
  obtain ⟨u, rfl⟩ := h
  exact ⟨fun i => if i = 6 then v else u i, by kernel_rfl⟩
theorem BaseGB.put7 {B : Nat} (a : Act) (v : Value) (h : BaseGB B a) : BaseGB B (a.put (some 7) v) := by
  obtain ⟨u, rfl⟩ := h
  exact ⟨fun i => if i = 7 then v else u i, by kernel_rfl⟩
theorem BaseGB.put8 {B : Nat} (a : Act) (v : Value) (h : BaseGB B a) : BaseGB B (a.put (some 8) v) := by
  obtain ⟨u, rfl⟩ := h
  exact ⟨fun i => if i = 8 then v else u i, by kernel_rfl⟩
theorem BaseGB.put9 {B : Nat} (a : Act) (v : Value) (h : BaseGB B a) : BaseGB B (a.put (some 9) v) := by
  obtain ⟨u, rfl⟩ := h
  exact ⟨fun i => if i = 9 then v else u i, by kernel_rfl⟩
theorem BaseGB.put10 {B : Nat} (a : Act) (v : Value) (h : BaseGB B a) : BaseGB B (a.put (some 10) v) := by
  obtain ⟨u, rfl⟩ := h
  exact ⟨fun i => if i = 10 then v else u i, by kernel_rfl⟩
theorem BaseGB.put11 {B : Nat} (a : Act) (v : Value) (h : BaseGB B a) : BaseGB B (a.put (some 11) v) := by
  obtain ⟨u, rfl⟩ := h
  exact ⟨fun i => if i = 11 then v else u i, by kernel_rfl⟩
theorem BaseGB.put12 {B : Nat} (a : Act) (v : Value) (h : BaseGB B a) : BaseGB B (a.put (some 12) v) := by
  obtain ⟨u, rfl⟩ := h
  exact ⟨fun i => if i = 12 then v else u i, by kernel_rfl⟩
theorem BaseGB.put13 {B : Nat} (a : Act) (v : Value) (h : BaseGB B a) : BaseGB B (a.put (some 13) v) := by
  obtain ⟨u, rfl⟩ := h
  exact ⟨fun i => if i = 13 then v else u i, by kernel_rfl⟩
theorem BaseGB.put14 {B : Nat} (a : Act) (v : Value) (h : BaseGB B a) : BaseGB B (a.put (some 14) v) := by
  obtain ⟨u, rfl⟩ := h
  exact ⟨fun i => if i = 14 then v else u i, by kernel_rfl⟩
theorem BaseGB.put15 {B : Nat} (a : Act) (v : Value) (h : BaseGB B a) : BaseGB B (a.put (some 15) v) := by
  obtain ⟨u, rfl⟩ := h
  exact ⟨fun i => if i = 15 then v else u i, by kernel_rfl⟩
theorem BaseGB.put16 {B : Nat} (a : Act) (v : Value) (h : BaseGB B a) : BaseGB B (a.put (some 16) v) := by
  obtain ⟨u, rfl⟩ := h
  exact ⟨fun i => if i = 16 then v else u i, by kernel_rfl⟩
theorem BaseGB.put17 {B : Nat} (a : Act) (v : Value) (h : BaseGB B a) : BaseGB B (a.put (some 17) v) := by
  obtain ⟨u, rfl⟩ := h
  exact ⟨fun i => if i = 17 then v else u i, by kernel_rfl⟩
theorem BaseGB.put18 {B : Nat} (a : Act) (v : Value) (h : BaseGB B a) : BaseGB B (a.put (some 18) v) := by
  obtain ⟨u, rfl⟩ := h
  exact ⟨fun i => if i = 18 then v else u i, by kernel_rfl⟩
theorem BaseGB.put19 {B : Nat} (a : Act) (v : Value) (h : BaseGB B a) : BaseGB B (a.put (some 19) v) := by
  obtain ⟨u, rfl⟩ := h
  exact ⟨fun i => if i = 19 then v else u i, by kernel_rfl⟩
theorem BaseGB.put20 {B : Nat} (a : Act) (v : Value) (h : BaseGB B a) : BaseGB B (a.put (some 20) v) := by
  obtain ⟨u, rfl⟩ := h
  exact ⟨fun i => if i = 20 then v else u i, by kernel_rfl⟩
theorem BaseGB.put21 {B : Nat} (a : Act) (v : Value) (h : BaseGB B a) : BaseGB B (a.put (some 21) v) := by
  obtain ⟨u, rfl⟩ := h
  exact ⟨fun i => if i = 21 then v else u i, by kernel_rfl⟩
theorem BaseGB.put2 {B : Nat} (a : Act) (v : Value) (h : BaseGB B a) : BaseGB B (a.put (some 2) v) := by
  obtain ⟨u, rfl⟩ := h
  exact ⟨fun i => if i = 2 then v else u i, by kernel_rfl⟩

set_option maxHeartbeats 1000000 in
set_option maxRecDepth 100000 in
theorem rge_bound (b l y n s r : Int) (w : World) (h : PreG b l y n s r) :
    Calls Try.prog 18 #[.agg (gv b l y n s r)] w fun e w' => e = .returned (.int .i64 (boundG b l y n s)) ∧ Below w.heap.size w w' := by
  have hbd := bound_bd h
  have hsn := snaps_bd h
  have HP := Lib.hid h
  unfold boundG
  obtain ⟨k, hk⟩ : ∃ k, snapsG b y n = k := ⟨_, rfl⟩
  rw [hk] at hbd hsn ⊢
  have HK := Lib.hid hk
  obtain ⟨h1, h2, h3, h4, h5, h6, h7, h8, h9, h10, h11, h12, h13, h14⟩ := h
  have hf : (8 ≤ b ∧ b ≤ 64 ∧ 6 ≤ l ∧ l ≤ 64 ∧ 0 ≤ s ∧ s ≤ 16 ∧ 1 ≤ n ∧ n ≤ 4096 ∧ 1 ≤ k ∧ k ≤ 1600) ∧ 0 ≤ 8 * (b + s + 4) * (16 * l + n + 2 * k + 16) ∧ 8 * (b + s + 4) * (16 * l + n + 2 * k + 16) ≤ 672 * 10000 := ⟨⟨h1, h2, h3, h4, h8, h9, h13, h14, hsn.1, hsn.2⟩, hbd⟩
  have HF := Lib.hid hf
  have HC0 : Hid (CG w b l y n s r (w.alloc (.cells (gv b l y n s r) 23))) := ⟨Blk.new w _ _, (Below.refl w.heap.size w).alloc (Nat.le_refl _) _⟩
  clear hf hbd hsn hk h1 h2 h3 h4 h5 h6 h7 h8 h9 h10 h11 h12 h13 h14
  go_enter Try.func18, Try.ntmps18
  unfold gv at *
  go_wp2_with fail
  rename_i K0 hK0
  refine wp_region_list3 (SV (vsGB w.heap.size b l y n s r k) []) (BaseGB w.heap.size) (CG w b l y n s r) Goes (RV (vsGB w.heap.size b l y n s r k) (fun _ _ _ => False)) rfl (by kernel_rfl) (RV.ext no_special6) ?_ HC0.out.drew (BaseGB.of _ (by kernel_rfl)) ?_ ?_
  · exact ⟨BaseGB.put3, BaseGB.put4, BaseGB.put5, BaseGB.put6, BaseGB.put7, BaseGB.put8, BaseGB.put9, BaseGB.put10, BaseGB.put11, BaseGB.put12, BaseGB.put13, BaseGB.put14, BaseGB.put15, BaseGB.put16, BaseGB.put17, BaseGB.put18, BaseGB.put19, BaseGB.put20, BaseGB.put21, BaseGB.put2, trivial⟩
  · refine ⟨?_, ?_, ?_, ?_, ?_, ?_, ?_, ?_, ?_, ?_, ?_, ?_, ?_, ?_, ?_, ?_, ?_, ?_, ?_, ?_, trivial⟩
    all_goals
      intro a w' hC hB hR
      obtain ⟨u, rfl⟩ := hB
      have HC := Lib.hid hC
      clear hC
      clear hK0
    · clear hR
      refine if_yes (by kernel_rfl) ?_
      unfold Oper.wp
      go_simp
      exact ⟨.pointer (some ⟨w.heap.size, 0, none⟩), rfl, HC.out, Below.refl _ _, rfl⟩
    · have h3 : u 3 = .pointer (some ⟨w.heap.size, 0, none⟩) := hR ⟨0, .data⟩ (by simp) rfl
      have hc : w'.cell? ⟨w.heap.size, 0, none⟩ = some (.int .i64 b) := HC.out.1.cell 0
      clear hR
      simp only [h3]
      clear h3
      refine if_yes (by kernel_rfl) ?_
      unfold Oper.wp
      go_simp
      exact ⟨.int .i64 b, rfl, HC.out, Below.refl _ _, rfl⟩
    · clear hR
      refine if_yes (by kernel_rfl) ?_
      unfold Oper.wp
      go_simp
      exact ⟨.pointer (some ⟨w.heap.size, 4, none⟩), rfl, HC.out, Below.refl _ _, rfl⟩
    · have h5 : u 5 = .pointer (some ⟨w.heap.size, 4, none⟩) := hR ⟨2, .data⟩ (by simp) rfl
      have hc : w'.cell? ⟨w.heap.size, 4, none⟩ = some (.int .i64 s) := HC.out.1.cell 4
      clear hR
      simp only [h5]
      clear h5
      refine if_yes (by kernel_rfl) ?_
      unfold Oper.wp
      go_simp
      exact ⟨.int .i64 s, rfl, HC.out, Below.refl _ _, rfl⟩
    · have h4 : u 4 = .int .i64 b := hR ⟨1, .data⟩ (by simp) rfl
      have h6 : u 6 = .int .i64 s := hR ⟨3, .data⟩ (by simp) rfl
      have hf := HF.out
      have hw : IntKind.i64.wrap (b + s) = b + s := by rw [IntKind.wrap_i64]; omega
      clear hf
      clear hR
      simp only [h4, h6]
      clear h4 h6
      refine if_yes (by kernel_rfl) ?_
      unfold Oper.wp
      go_simp
      exact ⟨.int .i64 (b + s), rfl, HC.out, Below.refl _ _, rfl⟩
    · have h7 : u 7 = .int .i64 (b + s) := hR ⟨4, .data⟩ (by simp) rfl
      have hf := HF.out
      have hw : IntKind.i64.wrap (b + s + 4) = b + s + 4 := by rw [IntKind.wrap_i64]; omega
      clear hf
      clear hR
      simp only [h7]
      clear h7
      refine if_yes (by kernel_rfl) ?_
      unfold Oper.wp
      go_simp
      exact ⟨.int .i64 (b + s + 4), rfl, HC.out, Below.refl _ _, rfl⟩
    · have h8 : u 8 = .int .i64 (b + s + 4) := hR ⟨5, .data⟩ (by simp) rfl
      have hf := HF.out
      have hw : IntKind.i64.wrap (8 * (b + s + 4)) = 8 * (b + s + 4) := by rw [IntKind.wrap_i64]; omega
      clear hf
      clear hR
      simp only [h8]
      clear h8
      refine if_yes (by kernel_rfl) ?_
      unfold Oper.wp
      go_simp
      exact ⟨.int .i64 (8 * (b + s + 4)), rfl, HC.out, Below.refl _ _, rfl⟩
    · clear hR
      refine if_yes (by kernel_rfl) ?_
      unfold Oper.wp
      go_simp
      exact ⟨.pointer (some ⟨w.heap.size, 1, none⟩), rfl, HC.out, Below.refl _ _, rfl⟩
    · have h10 : u 10 = .pointer (some ⟨w.heap.size, 1, none⟩) := hR ⟨7, .data⟩ (by simp) rfl
      have hc : w'.cell? ⟨w.heap.size, 1, none⟩ = some (.int .i64 l) := HC.out.1.cell 1
      clear hR
      simp only [h10]
      clear h10
      refine if_yes (by kernel_rfl) ?_
      unfold Oper.wp
      go_simp
      exact ⟨.int .i64 l, rfl, HC.out, Below.refl _ _, rfl⟩
    · have h11 : u 11 = .int .i64 l := hR ⟨8, .data⟩ (by simp) rfl
      have hf := HF.out
      have hw : IntKind.i64.wrap (16 * l) = 16 * l := by rw [IntKind.wrap_i64]; omega
      clear hf
      clear hR
      simp only [h11]
      clear h11
      refine if_yes (by kernel_rfl) ?_
      unfold Oper.wp
      go_simp
      exact ⟨.int .i64 (16 * l), rfl, HC.out, Below.refl _ _, rfl⟩
    · clear hR
      refine if_yes (by kernel_rfl) ?_
      unfold Oper.wp
      go_simp
      exact ⟨.pointer (some ⟨w.heap.size, 3, none⟩), rfl, HC.out, Below.refl _ _, rfl⟩
    · have h13 : u 13 = .pointer (some ⟨w.heap.size, 3, none⟩) := hR ⟨10, .data⟩ (by simp) rfl
      have hc : w'.cell? ⟨w.heap.size, 3, none⟩ = some (.int .i64 n) := HC.out.1.cell 3
      clear hR
      simp only [h13]
      clear h13
      refine if_yes (by kernel_rfl) ?_
      unfold Oper.wp
      go_simp
      exact ⟨.int .i64 n, rfl, HC.out, Below.refl _ _, rfl⟩
    · have h12 : u 12 = .int .i64 (16 * l) := hR ⟨9, .data⟩ (by simp) rfl
      have h14 : u 14 = .int .i64 n := hR ⟨11, .data⟩ (by simp) rfl
      have hf := HF.out
      have hw : IntKind.i64.wrap (16 * l + n) = 16 * l + n := by rw [IntKind.wrap_i64]; omega
      clear hf
      clear hR
      simp only [h12, h14]
      clear h12 h14
      refine if_yes (by kernel_rfl) ?_
      unfold Oper.wp
      go_simp
      exact ⟨.int .i64 (16 * l + n), rfl, HC.out, Below.refl _ _, rfl⟩
    · clear hR
      refine if_yes (by kernel_rfl) ?_
      exact wp_load_row 23 (.tmp 1) rfl _ rfl 23 _ (0, 0) _ HC.out.1 Try.underlying23 rfl size_geo ⟨.agg (gv b l y n s r), rfl, HC.out, Below.refl _ _, rfl⟩
    · have h16 : u 16 = .agg (gv b l y n s r) := hR ⟨13, .data⟩ (by simp) rfl
      clear hR
      simp only [h16]
      clear h16
      refine if_yes (by kernel_rfl) ?_
      unfold Oper.wp
      go_simp
      refine (rge_snaps b l y n s r _ HP.out).mono ?_
      rintro e w2 ⟨rfl, hb2⟩
      rw [HK.out]
      exact ⟨.int .i64 k, rfl, HC.out.call hb2, hb2, rfl⟩
    · have h17 : u 17 = .int .i64 k := hR ⟨14, .data⟩ (by simp) rfl
      have hf := HF.out
      have hw : IntKind.i64.wrap (2 * k) = 2 * k := by rw [IntKind.wrap_i64]; omega
      clear hf
      clear hR
      simp only [h17]
      clear h17
      refine if_yes (by kernel_rfl) ?_
      unfold Oper.wp
      go_simp
      exact ⟨.int .i64 (2 * k), rfl, HC.out, Below.refl _ _, rfl⟩
    · have h15 : u 15 = .int .i64 (16 * l + n) := hR ⟨12, .data⟩ (by simp) rfl
      have h18 : u 18 = .int .i64 (2 * k) := hR ⟨15, .data⟩ (by simp) rfl
      have hf := HF.out
      have hw : IntKind.i64.wrap (16 * l + n + 2 * k) = 16 * l + n + 2 * k := by rw [IntKind.wrap_i64]; omega
      clear hf
      clear hR
      simp only [h15, h18]
      clear h15 h18
      refine if_yes (by kernel_rfl) ?_
      unfold Oper.wp
      go_simp
      exact ⟨.int .i64 (16 * l + n + 2 * k), rfl, HC.out, Below.refl _ _, rfl⟩
    · have h19 : u 19 = .int .i64 (16 * l + n + 2 * k) := hR ⟨16, .data⟩ (by simp) rfl
      have hf := HF.out
      have hw : IntKind.i64.wrap (16 * l + n + 2 * k + 16) = 16 * l + n + 2 * k + 16 := by rw [IntKind.wrap_i64]; omega
      clear hf
      clear hR
      simp only [h19]
      clear h19
      refine if_yes (by kernel_rfl) ?_
      unfold Oper.wp
      go_simp
      exact ⟨.int .i64 (16 * l + n + 2 * k + 16), rfl, HC.out, Below.refl _ _, rfl⟩
    · have h9 : u 9 = .int .i64 (8 * (b + s + 4)) := hR ⟨6, .data⟩ (by simp) rfl
      have h20 : u 20 = .int .i64 (16 * l + n + 2 * k + 16) := hR ⟨17, .data⟩ (by simp) rfl
      have hf := HF.out
      have hw : IntKind.i64.wrap (8 * (b + s + 4) * (16 * l + n + 2 * k + 16)) = 8 * (b + s + 4) * (16 * l + n + 2 * k + 16) := by rw [IntKind.wrap_i64]; omega
      clear hf
      clear hR
      simp only [h9, h20]
      clear h9 h20
      refine if_yes (by kernel_rfl) ?_
      unfold Oper.wp
      go_simp
      exact ⟨.int .i64 (8 * (b + s + 4) * (16 * l + n + 2 * k + 16)), rfl, HC.out, Below.refl _ _, rfl⟩
    · have h21 : u 21 = .int .i64 (8 * (b + s + 4) * (16 * l + n + 2 * k + 16)) := hR ⟨18, .data⟩ (by simp) rfl
      clear hR
      simp only [h21]
      clear h21
      refine if_yes (by kernel_rfl) ?_
      unfold Oper.wp
      go_simp
      exact ⟨.int .i64 (8 * (b + s + 4) * (16 * l + n + 2 * k + 16)), rfl, HC.out, Below.refl _ _, rfl⟩
  · intro a w' hC hB hR
    have h2 : a.tmps.getD 2 undef = .int .i64 (8 * (b + s + 4) * (16 * l + n + 2 * k + 16)) := hR 19 (by decide)
    clear hR
    have HE := Lib.hid hC.2
    clear hC
    obtain ⟨u, rfl⟩ := hB
    have h2 : u 2 = .int .i64 (8 * (b + s + 4) * (16 * l + n + 2 * k + 16)) := h2
    simp only [h2]
    clear h2
    go_wp2_with fail
    go_ret
    exact ⟨rfl, HE.out⟩

set_option maxRecDepth 100000 in
theorem rge_has (b l y n s r x z p : Int) (w : World) : Calls Try.prog 29 #[.agg (gv b l y n s r), .agg (av x z p)] w fun e w' => e = .returned (.bool (hasB b l x z p)) ∧ Below w.heap.size w w' := by
  have HB := Lib.hid (((Below.refl w.heap.size w).alloc (Nat.le_refl _) (.cells (gv b l y n s r) 23)).alloc (by simp) (.cells (av x z p) 30))
  unfold gv av at *
  go_enter Try.func29, Try.ntmps29
  go_wp2
  all_goals go_ret
  all_goals exact ⟨ret_bool (by rw [Bool.eq_iff_iff, hasB_iff]; unfold HasG; simp; try omega), HB.out⟩

end Go.Proofs.Ytejgdaekomdhlaa
