/- Layer 6, the code's Bound and Number. -/
import Derived.Test.YtejgdaekomdhlaaGeC2
import Derived.Test.YtejgdaekomdhlaaGeR9
namespace Go.Proofs.Ytejgdaekomdhlaa
set_option maxRecDepth 100000
open Go.RowKit

set_option maxHeartbeats 1000000 in
set_option maxRecDepth 100000 in
theorem ge_bound (b l y n s r : Int) (w : World) (h0 : OkG b l y n s r) :
    Calls Try.prog 17 #[.agg (gv b l y n s r)] w fun e w' => e = .returned (.int .i64 (boundG b l y n s)) ∧ Below w.heap.size w w' := by
  have h := h0.1
  have hbd := bound_bd h
  have hsn := snaps_bd h
  have HP := Lib.hid h0
  clear h0
  unfold boundG
  obtain ⟨k, hk⟩ : ∃ k, snapsG b y n = k := ⟨_, rfl⟩
  rw [hk] at hbd hsn ⊢
  have HK := Lib.hid hk
  obtain ⟨h1, h2, h3, h4, h5, h6, h7, h8, h9, h10, h11, h12, h13, h14⟩ := h
  have hf : (8 ≤ b ∧ b ≤ 64 ∧ 6 ≤ l ∧ l ≤ 64 ∧ 0 ≤ s ∧ s ≤ 16 ∧ 1 ≤ n ∧ n ≤ 4096 ∧ 1 ≤ k ∧ k ≤ 1600) ∧ 0 ≤ 8 * (b + s + 4) * (16 * l + n + 2 * k + 16) ∧ 8 * (b + s + 4) * (16 * l + n + 2 * k + 16) ≤ 672 * 10000 := ⟨⟨h1, h2, h3, h4, h8, h9, h13, h14, hsn.1, hsn.2⟩, hbd⟩
  have HF := Lib.hid hf
  have HC0 : Hid (CG w b l y n s r (w.alloc (.cells (gv b l y n s r) 23))) := ⟨Blk.new w _ _, (Below.refl w.heap.size w).alloc (Nat.le_refl _) _⟩
  clear hf hbd hsn hk h1 h2 h3 h4 h5 h6 h7 h8 h9 h10 h11 h12 h13 h14
  go_enter Try.func17, Try.ntmps17
  unfold gv at *
  go_wp2_with fail
  rename_i K0 hK0
  refine wp_region_list3 (SV (vsGB w.heap.size b l y n s r k) []) (BaseGB w.heap.size) (CG w b l y n s r) Goes (RV (vsGB w.heap.size b l y n s r k) (fun _ _ _ => False)) rfl (by kernel_rfl) (RV.ext no_special6) ?_ HC0.out.drew (BaseGB.of _ (by kernel_rfl)) ?_ ?_
  · exact ⟨BaseGB.put3, BaseGB.put4, BaseGB.put5, BaseGB.put6, BaseGB.put7, BaseGB.put8, BaseGB.put9, BaseGB.put10, BaseGB.put11, BaseGB.put12, BaseGB.put13, BaseGB.put14, BaseGB.put15, BaseGB.put16, BaseGB.put17, BaseGB.put18, BaseGB.put19, BaseGB.put20, BaseGB.put21, BaseGB.put2, trivial⟩
  · refine ⟨?_, ?_, ?_, ?_, ?_, ?_, ?_, ?_, ?_, ?_, ?_, ?_, ?_, ?_, ?_, ?_, ?_, ?_, ?_, ?_, trivial⟩
    all_goals
      intro a w' hC hB hR
      obtain ⟨u, rfl⟩ := hB
      have HC := Lib.hid hC
      clear hC
      clear hK0
    · clear hR
      refine if_yes (by kernel_rfl) ?_
      unfold Oper.wp
      go_simp
      exact ⟨.pointer (some ⟨w.heap.size, 0, none⟩), rfl, HC.out, Below.refl _ _, rfl⟩
    · have h3 : u 3 = .pointer (some ⟨w.heap.size, 0, none⟩) := hR ⟨0, .data⟩ (by simp) rfl
      have hc : w'.cell? ⟨w.heap.size, 0, none⟩ = some (.int .i64 b) := HC.out.1.cell 0
      clear hR
      simp only [h3]
      clear h3
      refine if_yes (by kernel_rfl) ?_
      unfold Oper.wp
      go_simp
      exact ⟨.int .i64 b, rfl, HC.out, Below.refl _ _, rfl⟩
    · clear hR
      refine if_yes (by kernel_rfl) ?_
      unfold Oper.wp
      go_simp
      exact ⟨.pointer (some ⟨w.heap.size, 4, none⟩), rfl, HC.out, Below.refl _ _, rfl⟩
    · have h5 : u 5 = .pointer (some ⟨w.heap.size, 4, none⟩) := hR ⟨2, .data⟩ (by simp) rfl
      have hc : w'.cell? ⟨w.heap.size, 4, none⟩ = some (.int .i64 s) := HC.out.1.cell 4
      clear hR
      simp only [h5]
      clear h5
      refine if_yes (by kernel_rfl) ?_
      unfold Oper.wp
      go_simp
      exact ⟨.int .i64 s, rfl, HC.out, Below.refl _ _, rfl⟩
    · have h4 : u 4 = .int .i64 b := hR ⟨1, .data⟩ (by simp) rfl
      have h6 : u 6 = .int .i64 s := hR ⟨3, .data⟩ (by simp) rfl
      have hf := HF.out
      have hw : IntKind.i64.wrap (b + s) = b + s := by rw [IntKind.wrap_i64]; omega
      clear hf
      clear hR
      simp only [h4, h6]
      clear h4 h6
      refine if_yes (by kernel_rfl) ?_
      unfold Oper.wp
      go_simp
      exact ⟨.int .i64 (b + s), rfl, HC.out, Below.refl _ _, rfl⟩
    · have h7 : u 7 = .int .i64 (b + s) := hR ⟨4, .data⟩ (by simp) rfl
      have hf := HF.out
      have hw : IntKind.i64.wrap (b + s + 4) = b + s + 4 := by rw [IntKind.wrap_i64]; omega
      clear hf
      clear hR
      simp only [h7]
      clear h7
      refine if_yes (by kernel_rfl) ?_
      unfold Oper.wp
      go_simp
      exact ⟨.int .i64 (b + s + 4), rfl, HC.out, Below.refl _ _, rfl⟩
    · have h8 : u 8 = .int .i64 (b + s + 4) := hR ⟨5, .data⟩ (by simp) rfl
      have hf := HF.out
      have hw : IntKind.i64.wrap (8 * (b + s + 4)) = 8 * (b + s + 4) := by rw [IntKind.wrap_i64]; omega
      clear hf
      clear hR
      simp only [h8]
      clear h8
      refine if_yes (by kernel_rfl) ?_
      unfold Oper.wp
      go_simp
      exact ⟨.int .i64 (8 * (b + s + 4)), rfl, HC.out, Below.refl _ _, rfl⟩
    · clear hR
      refine if_yes (by kernel_rfl) ?_
      unfold Oper.wp
      go_simp
      exact ⟨.pointer (some ⟨w.heap.size, 1, none⟩), rfl, HC.out, Below.refl _ _, rfl⟩
    · have h10 : u 10 = .pointer (some ⟨w.heap.size, 1, none⟩) := hR ⟨7, .data⟩ (by simp) rfl
      have hc : w'.cell? ⟨w.heap.size, 1, none⟩ = some (.int .i64 l) := HC.out.1.cell 1
      clear hR
      simp only [h10]
      clear h10
      refine if_yes (by kernel_rfl) ?_
      unfold Oper.wp
      go_simp
      exact ⟨.int .i64 l, rfl, HC.out, Below.refl _ _, rfl⟩
    · have h11 : u 11 = .int .i64 l := hR ⟨8, .data⟩ (by simp) rfl
      have hf := HF.out
      have hw : IntKind.i64.wrap (16 * l) = 16 * l := by rw [IntKind.wrap_i64]; omega
      clear hf
      clear hR
      simp only [h11]
      clear h11
      refine if_yes (by kernel_rfl) ?_
      unfold Oper.wp
      go_simp
      exact ⟨.int .i64 (16 * l), rfl, HC.out, Below.refl _ _, rfl⟩
    · clear hR
      refine if_yes (by kernel_rfl) ?_
      unfold Oper.wp
      go_simp
      exact ⟨.pointer (some ⟨w.heap.size, 3, none⟩), rfl, HC.out, Below.refl _ _, rfl⟩
    · have h13 : u 13 = .pointer (some ⟨w.heap.size, 3, none⟩) := hR ⟨10, .data⟩ (by simp) rfl
      have hc : w'.cell? ⟨w.heap.size, 3, none⟩ = some (.int .i64 n) := HC.out.1.cell 3
      clear hR
      simp only [h13]
      clear h13
      refine if_yes (by kernel_rfl) ?_
      unfold Oper.wp
      go_simp
      exact ⟨.int .i64 n, rfl, HC.out, Below.refl _ _, rfl⟩
    · have h12 : u 12 = .int .i64 (16 * l) := hR ⟨9, .data⟩ (by simp) rfl
      have h14 : u 14 = .int .i64 n := hR ⟨11, .data⟩ (by simp) rfl
      have hf := HF.out
      have hw : IntKind.i64.wrap (16 * l + n) = 16 * l + n := by rw [IntKind.wrap_i64]; omega
      clear hf
      clear hR
      simp only [h12, h14]
      clear h12 h14
      refine if_yes (by kernel_rfl) ?_
      unfold Oper.wp
      go_simp
      exact ⟨.int .i64 (16 * l + n), rfl, HC.out, Below.refl _ _, rfl⟩
    · clear hR
      refine if_yes (by kernel_rfl) ?_
      exact wp_load_row 23 (.tmp 1) rfl _ rfl 23 _ (0, 0) _ HC.out.1 Try.underlying23 rfl size_geo ⟨.agg (gv b l y n s r), rfl, HC.out, Below.refl _ _, rfl⟩
    · have h16 : u 16 = .agg (gv b l y n s r) := hR ⟨13, .data⟩ (by simp) rfl
      clear hR
      simp only [h16]
      clear h16
      refine if_yes (by kernel_rfl) ?_
      unfold Oper.wp
      go_simp
      refine (ge_snaps b l y n s r _ HP.out).mono ?_
      rintro e w2 ⟨rfl, hb2⟩
      rw [HK.out]
      exact ⟨.int .i64 k, rfl, HC.out.call hb2, hb2, rfl⟩
    · have h17 : u 17 = .int .i64 k := hR ⟨14, .data⟩ (by simp) rfl
      have hf := HF.out
      have hw : IntKind.i64.wrap (2 * k) = 2 * k := by rw [IntKind.wrap_i64]; omega
      clear hf
      clear hR
      simp only [h17]
      clear h17
      refine if_yes (by kernel_rfl) ?_
      unfold Oper.wp
      go_simp
      exact ⟨.int .i64 (2 * k), rfl, HC.out, Below.refl _ _, rfl⟩
    · have h15 : u 15 = .int .i64 (16 * l + n) := hR ⟨12, .data⟩ (by simp) rfl
      have h18 : u 18 = .int .i64 (2 * k) := hR ⟨15, .data⟩ (by simp) rfl
      have hf := HF.out
      have hw : IntKind.i64.wrap (16 * l + n + 2 * k) = 16 * l + n + 2 * k := by rw [IntKind.wrap_i64]; omega
      clear hf
      clear hR
      simp only [h15, h18]
      clear h15 h18
      refine if_yes (by kernel_rfl) ?_
      unfold Oper.wp
      go_simp
      exact ⟨.int .i64 (16 * l + n + 2 * k), rfl, HC.out, Below.refl _ _, rfl⟩
    · have h19 : u 19 = .int .i64 (16 * l + n + 2 * k) := hR ⟨16, .data⟩ (by simp) rfl
      have hf := HF.out
      have hw : IntKind.i64.wrap (16 * l + n + 2 * k + 16) = 16 * l + n + 2 * k + 16 := by rw [IntKind.wrap_i64]; omega
      clear hf
      clear hR
      simp only [h19]
      clear h19
      refine if_yes (by kernel_rfl) ?_
      unfold Oper.wp
      go_simp
      exact ⟨.int .i64 (16 * l + n + 2 * k + 16), rfl, HC.out, Below.refl _ _, rfl⟩
    · have h9 : u 9 = .int .i64 (8 * (b + s + 4)) := hR ⟨6, .data⟩ (by simp) rfl
      have h20 : u 20 = .int .i64 (16 * l + n + 2 * k + 16) := hR ⟨17, .data⟩ (by simp) rfl
      have hf := HF.out
      have hw : IntKind.i64.wrap (8 * (b + s + 4) * (16 * l + n + 2 * k + 16)) = 8 * (b + s + 4) * (16 * l + n + 2 * k + 16) := by rw [IntKind.wrap_i64]; omega
      clear hf
      clear hR
      simp only [h9, h20]
      clear h9 h20
      refine if_yes (by kernel_rfl) ?_
      unfold Oper.wp
      go_simp
      exact ⟨.int .i64 (8 * (b + s + 4) * (16 * l + n + 2 * k + 16)), rfl, HC.out, Below.refl _ _, rfl⟩
    · have h21 : u 21 = .int .i64 (8 * (b + s + 4) * (16 * l + n + 2 * k + 16)) := hR ⟨18, .data⟩ (by simp) rfl
      clear hR
      simp only [h21]
      clear h21
      refine if_yes (by kernel_rfl) ?_
      unfold Oper.wp
      go_simp
      exact ⟨.int .i64 (8 * (b + s + 4) * (16 * l + n + 2 * k + 16)), rfl, HC.out, Below.refl _ _, rfl⟩
  · intro a w' hC hB hR
    have h2 : a.tmps.getD 2 undef = .int .i64 (8 * (b + s + 4) * (16 * l + n + 2 * k + 16)) := hR 19 (by decide)
    clear hR
    have HE := Lib.hid hC.2
    clear hC
    obtain ⟨u, rfl⟩ := hB
    have h2 : u 2 = .int .i64 (8 * (b + s + 4) * (16 * l + n + 2 * k + 16)) := h2
    simp only [h2]
    clear h2
    go_wp2_with fail
    go_ret
    exact ⟨rfl, HE.out⟩


def nuL (b l x z p : Int) : List Bool := [belowB x b, belowB z l, belowB p 3]
def nuB (b l x z p : Int) : Bool := (nuL b l x z p).all id
theorem nu_iff (b l x z p : Int) : nuB b l x z p = true ↔ HasG b l x z p := by
  unfold HasG
  simp only [nuB, nuL, belowB, List.all_cons, List.all_nil, id, Bool.and_eq_true, decide_eq_true_eq, and_true]
  omega
/-- the world while Number goes on -/
def CNu (w0 : World) (b l y n s r x z p : Int) (w : World) : Prop := Blk w w0.heap.size (gv b l y n s r) 23 ∧ Blk w (w0.heap.size + 1) (av x z p) 30 ∧ Below w0.heap.size w0 w
theorem CNu.call {w0 w w' : World} {b l y n s r x z p : Int} (h : CNu w0 b l y n s r x z p w) (hb : Below w.heap.size w w') : CNu w0 b l y n s r x z p w' := ⟨h.1.after hb, h.2.1.after hb, h.2.2.trans (hb.mono h.2.2.size)⟩

/-- what each operation of the region NU leaves -/
def vsNU (B : Nat) (b l x z p : Int) : List (Option (Tmp × Value)) :=
  [some (12, .pointer (some ⟨B + 1, 0, none⟩)), some (13, .int .i64 x), some (14, .pointer (some ⟨B, 0, none⟩)), some (15, .int .i64 b), some (16, .bool (belowB x b)), some (17, .pointer (some ⟨B + 1, 1, none⟩)), some (18, .int .i64 z), some (19, .pointer (some ⟨B, 1, none⟩)), some (20, .int .i64 l), some (21, .bool (belowB z l)), some (22, .pointer (some ⟨B + 1, 2, none⟩)), some (23, .int .i64 p), some (24, .bool (belowB p 3)), none, some (26, .bool (nuB b l x z p)), some (27, .bool (!nuB b l x z p))]
/-- the frame while the region NU runs -/
def BaseNU (B : Nat) (a : Act) : Prop := ∃ u : Nat → Value, a = ⟨#[u 0, u 1, .pointer (some ⟨B, 0, none⟩), .pointer (some ⟨B + 1, 0, none⟩), u 4, u 5, u 6, u 7, u 8, u 9, u 10, u 11, u 12, u 13, u 14, u 15, u 16, u 17, u 18, u 19, u 20, u 21, u 22, u 23, u 24, u 25, u 26, u 27, u 28, u 29, u 30, u 31, u 32, u 33, u 34, u 35, u 36, u 37, u 38, u 39], []⟩
theorem BaseNU.of {B : Nat} (arr : Array Value) (h : arr = #[arr.getD 0 undef, arr.getD 1 undef, .pointer (some ⟨B, 0, none⟩), .pointer (some ⟨B + 1, 0, none⟩), arr.getD 4 undef, arr.getD 5 undef, arr.getD 6 undef, arr.getD 7 undef, arr.getD 8 undef, arr.getD 9 undef, arr.getD 10 undef, arr.getD 11 undef, arr.getD 12 undef, arr.getD 13 undef, arr.getD 14 undef, arr.getD 15 undef, arr.getD 16 undef, arr.getD 17 undef, arr.getD 18 undef, arr.getD 19 undef, arr.getD 20 undef, arr.getD 21 undef, arr.getD 22 undef, arr.getD 23 undef, arr.getD 24 undef, arr.getD 25 undef, arr.getD 26 undef, arr.getD 27 undef, arr.getD 28 undef, arr.getD 29 undef, arr.getD 30 undef, arr.getD 31 undef, arr.getD 32 undef, arr.getD 33 undef, arr.getD 34 undef, arr.getD 35 undef, arr.getD 36 undef, arr.getD 37 undef, arr.getD 38 undef, arr.getD 39 undef]) : BaseNU B ⟨arr, []⟩ := ⟨fun i => arr.getD i undef, by rw [← h]⟩
theorem BaseNU.put12 {B : Nat} (a : Act) (v : Value) (h : BaseNU B a) : BaseNU B (a.put (some 12) v) := by
  obtain ⟨u, rfl⟩ := h
  exact ⟨fun i => if i = 12 then v else u i, by kernel_rfl⟩
theorem BaseNU.put13 {B : Nat} (a : Act) (v : Value) (h : BaseNU B a) : BaseNU B (a.put (some 13) v) := by
  obtain ⟨u, rfl⟩ := h
  exact ⟨fun i => if i = 13 then v else u i, by kernel_rfl⟩
theorem BaseNU.put14 {B : Nat} (a : Act) (v : Value) (h : BaseNU B a) : BaseNU B (a.put (some 14) v) := by
  obtain ⟨u, rfl⟩ := h
  exact ⟨fun i => if i = 14 then v else u i, by kernel_rfl⟩
theorem BaseNU.put15 {B : Nat} (a : Act) (v : Value) (h : BaseNU B a) : BaseNU B (a.put (some 15) v) := by
  obtain ⟨u, rfl⟩ := h
  exact ⟨fun i => if i = 15 then v else u i, by kernel_rfl⟩
theorem BaseNU.put16 {B : Nat} (a : Act) (v : Value) (h : BaseNU B a) : BaseNU B (a.put (some 16) v) := by
  obtain ⟨u, rfl⟩ := h
  exact ⟨fun i => if i = 16 then v else u i, by kernel_rfl⟩
theorem BaseNU.put17 {B : Nat} (a : Act) (v : Value) (h : BaseNU B a) : BaseNU B (a.put (some 17) v) := by
  obtain ⟨u, rfl⟩ := h
  exact ⟨fun i => if i = 17 then v else u i, by kernel_rfl⟩
theorem BaseNU.put18 {B : Nat} (a : Act) (v : Value) (h : BaseNU B a) : BaseNU B (a.put (some 18) v) := by
  obtain ⟨u, rfl⟩ := h
  exact ⟨fun i => if i = 18 then v else u i, by kernel_rfl⟩
theorem BaseNU.put19 {B : Nat} (a : Act) (v : Value) (h : BaseNU B a) : BaseNU B (a.put (some 19) v) := by
  obtain ⟨u, rfl⟩ := h
  exact ⟨fun i => if i = 19 then v else u i, by kernel_rfl⟩
theorem BaseNU.put20 {B : Nat} (a : Act) (v : Value) (h : BaseNU B a) : BaseNU B (a.put (some 20) v) := by
  obtain ⟨u, rfl⟩ := h
  exact ⟨fun i => if i = 20 then v else u i, by kernel_rfl⟩
theorem BaseNU.put21 {B : Nat} (a : Act) (v : Value) (h : BaseNU B a) : BaseNU B (a.put (some 21) v) := by
  obtain ⟨u, rfl⟩ := h
  exact ⟨fun i => if i = 21 then v else u i, by kernel_rfl⟩
theorem BaseNU.put22 {B : Nat} (a : Act) (v : Value) (h : BaseNU B a) : BaseNU B (a.put (some 22) v) := by
  obtain ⟨u, rfl⟩ := h
  exact ⟨fun i => if i = 22 then v else u i, by kernel_rfl⟩
theorem BaseNU.put23 {B : Nat} (a : Act) (v : Value) (h : BaseNU B a) : BaseNU B (a.put (some 23) v) := by
  obtain ⟨u, rfl⟩ := h
  exact ⟨fun i => if i = 23 then v else u i, by kernel_rfl⟩
theorem BaseNU.put24 {B : Nat} (a : Act) (v : Value) (h : BaseNU B a) : BaseNU B (a.put (some 24) v) := by
  obtain ⟨u, rfl⟩ := h
  exact ⟨fun i => if i = 24 then v else u i, by kernel_rfl⟩
theorem BaseNU.put25 {B : Nat} (a : Act) (v : Value) (h : BaseNU B a) : BaseNU B (a.put (some 25) v) := by
  obtain ⟨u, rfl⟩ := h
  exact ⟨fun i => if i = 25 then v else u i, by kernel_rfl⟩
theorem BaseNU.put26 {B : Nat} (a : Act) (v : Value) (h : BaseNU B a) : BaseNU B (a.put (some 26) v) := by
  obtain ⟨u, rfl⟩ := h
  exact ⟨fun i => if i = 26 then v else u i, by kernel_rfl⟩
theorem BaseNU.put27 {B : Nat} (a : Act) (v : Value) (h : BaseNU B a) : BaseNU B (a.put (some 27) v) := by
  obtain ⟨u, rfl⟩ := h
  exact ⟨fun i => if i = 27 then v else u i, by kernel_rfl⟩

set_option maxHeartbeats 1000000 in
set_option maxRecDepth 100000 in
theorem ge_number (b l y n s r x z p : Int) (w : World) : Calls Try.prog 21 #[.agg (gv b l y n s r), .agg (av x z p)] w (NumT b l y n s r x z p w) := by
  obtain ⟨w1, hw1⟩ : ∃ w1, (w.alloc (.cells (gv b l y n s r) 23)).alloc (.cells (av x z p) 30) = w1 := ⟨_, rfl⟩
  have hg : Blk w1 w.heap.size (gv b l y n s r) 23 := by rw [← hw1]; exact (Blk.new w _ _).alloc _
  have ha : Blk w1 (w.heap.size + 1) (av x z p) 30 := by
    rw [← hw1]
    have h := Blk.new (w.alloc (.cells (gv b l y n s r) 23)) (av x z p) 30
    rwa [World.size_alloc] at h
  have hb : Below w.heap.size w w1 := by rw [← hw1]; exact ((Below.refl w.heap.size w).alloc (Nat.le_refl _) _).alloc (by simp) _
  have HG := Lib.hid hg
  have HA := Lib.hid ha
  have HB := Lib.hid hb
  have HW := Lib.hid hw1
  clear hg ha hb hw1
  go_enter Try.func21, Try.ntmps21
  go_wp2_with (first | (rw [HW.out]; refine wpList_load_row rfl 23 (.tmp 2) rfl w.heap.size rfl 23 (gv b l y n s r) (0, 0) _ HG.out Try.underlying23 rfl size_geo ?_))
  refine (ge_check b l y n s r _).mono ?_
  rintro e w2 ⟨rfl, hb2⟩
  have HC0 : Hid (CNu w b l y n s r x z p w2) := ⟨HG.out.after hb2, HA.out.after hb2, HB.out.trans (hb2.mono HB.out.size)⟩
  clear hb2 HG HA HB
  by_cases hok : OkG b l y n s r
  · have hpre := hok.1
    have HOK := Lib.hid hok
    rw [chk_ok hok]
    clear hok
    obtain ⟨q1, q2, q3, q4, _⟩ := hpre
    have HQ := Lib.hid (⟨q1, q2, q3, q4⟩ : 8 ≤ b ∧ b ≤ 64 ∧ 6 ≤ l ∧ l ≤ 64)
    clear q1 q2 q3 q4
    go_wp2_with fail
    rename_i K0 hK0
    refine wp_region_list3 (SV (vsNU w.heap.size b l x z p) [25]) (BaseNU w.heap.size) (CNu w b l y n s r x z p) Goes (RV (vsNU w.heap.size b l x z p) (MadeB 25 3 (nuL b l x z p))) rfl (by kernel_rfl) (RV.ext MadeB.ext) ?_ (HC0.out.call (Below.refl _ _).drew) (BaseNU.of _ (by kernel_rfl)) ?_ ?_
    · exact ⟨BaseNU.put12, BaseNU.put13, BaseNU.put14, BaseNU.put15, BaseNU.put16, BaseNU.put17, BaseNU.put18, BaseNU.put19, BaseNU.put20, BaseNU.put21, BaseNU.put22, BaseNU.put23, BaseNU.put24, BaseNU.put25, BaseNU.put26, BaseNU.put27, trivial⟩
    · refine ⟨?_, ?_, ?_, ?_, ?_, ?_, ?_, ?_, ?_, ?_, ?_, ?_, ?_, ?_, ?_, ?_, trivial⟩
      all_goals
        intro a w' hC hB hR
        obtain ⟨u, rfl⟩ := hB
        have HC := Lib.hid hC
        clear hC
      · clear hR
        refine if_yes (by kernel_rfl) ?_
        unfold Oper.wp
        go_simp
        exact ⟨.pointer (some ⟨w.heap.size + 1, 0, none⟩), rfl, HC.out, Below.refl _ _, rfl⟩
      · have h12 : u 12 = .pointer (some ⟨w.heap.size + 1, 0, none⟩) := hR ⟨0, .data⟩ (by simp) rfl
        have hc : w'.cell? ⟨w.heap.size + 1, 0, none⟩ = some (.int .i64 x) := HC.out.2.1.cell 0
        clear hR
        simp only [h12]
        clear h12
        refine if_yes (by kernel_rfl) ?_
        unfold Oper.wp
        go_simp
        exact ⟨.int .i64 x, rfl, HC.out, Below.refl _ _, rfl⟩
      · clear hR
        refine if_yes (by kernel_rfl) ?_
        unfold Oper.wp
        go_simp
        exact ⟨.pointer (some ⟨w.heap.size, 0, none⟩), rfl, HC.out, Below.refl _ _, rfl⟩
      · have h14 : u 14 = .pointer (some ⟨w.heap.size, 0, none⟩) := hR ⟨2, .data⟩ (by simp) rfl
        have hc : w'.cell? ⟨w.heap.size, 0, none⟩ = some (.int .i64 b) := HC.out.1.cell 0
        clear hR
        simp only [h14]
        clear h14
        refine if_yes (by kernel_rfl) ?_
        unfold Oper.wp
        go_simp
        exact ⟨.int .i64 b, rfl, HC.out, Below.refl _ _, rfl⟩
      · have h13 : u 13 = .int .i64 x := hR ⟨1, .data⟩ (by simp) rfl
        have h15 : u 15 = .int .i64 b := hR ⟨3, .data⟩ (by simp) rfl
        clear hR
        simp only [h13, h15]
        clear h13 h15
        refine if_yes (by kernel_rfl) ?_
        unfold Oper.wp
        go_simp
        refine (is_below x b _).mono ?_
        rintro e w2 ⟨rfl, hb2⟩
        exact ⟨.bool (belowB x b), rfl, HC.out.call hb2, hb2, rfl⟩
      · clear hR
        refine if_yes (by kernel_rfl) ?_
        unfold Oper.wp
        go_simp
        exact ⟨.pointer (some ⟨w.heap.size + 1, 1, none⟩), rfl, HC.out, Below.refl _ _, rfl⟩
      · have h17 : u 17 = .pointer (some ⟨w.heap.size + 1, 1, none⟩) := hR ⟨5, .data⟩ (by simp) rfl
        have hc : w'.cell? ⟨w.heap.size + 1, 1, none⟩ = some (.int .i64 z) := HC.out.2.1.cell 1
        clear hR
        simp only [h17]
        clear h17
        refine if_yes (by kernel_rfl) ?_
        unfold Oper.wp
        go_simp
        exact ⟨.int .i64 z, rfl, HC.out, Below.refl _ _, rfl⟩
      · clear hR
        refine if_yes (by kernel_rfl) ?_
        unfold Oper.wp
        go_simp
        exact ⟨.pointer (some ⟨w.heap.size, 1, none⟩), rfl, HC.out, Below.refl _ _, rfl⟩
      · have h19 : u 19 = .pointer (some ⟨w.heap.size, 1, none⟩) := hR ⟨7, .data⟩ (by simp) rfl
        have hc : w'.cell? ⟨w.heap.size, 1, none⟩ = some (.int .i64 l) := HC.out.1.cell 1
        clear hR
        simp only [h19]
        clear h19
        refine if_yes (by kernel_rfl) ?_
        unfold Oper.wp
        go_simp
        exact ⟨.int .i64 l, rfl, HC.out, Below.refl _ _, rfl⟩
      · have h18 : u 18 = .int .i64 z := hR ⟨6, .data⟩ (by simp) rfl
        have h20 : u 20 = .int .i64 l := hR ⟨8, .data⟩ (by simp) rfl
        clear hR
        simp only [h18, h20]
        clear h18 h20
        refine if_yes (by kernel_rfl) ?_
        unfold Oper.wp
        go_simp
        refine (is_below z l _).mono ?_
        rintro e w2 ⟨rfl, hb2⟩
        exact ⟨.bool (belowB z l), rfl, HC.out.call hb2, hb2, rfl⟩
      · clear hR
        refine if_yes (by kernel_rfl) ?_
        unfold Oper.wp
        go_simp
        exact ⟨.pointer (some ⟨w.heap.size + 1, 2, none⟩), rfl, HC.out, Below.refl _ _, rfl⟩
      · have h22 : u 22 = .pointer (some ⟨w.heap.size + 1, 2, none⟩) := hR ⟨10, .data⟩ (by simp) rfl
        have hc : w'.cell? ⟨w.heap.size + 1, 2, none⟩ = some (.int .i64 p) := HC.out.2.1.cell 2
        clear hR
        simp only [h22]
        clear h22
        refine if_yes (by kernel_rfl) ?_
        unfold Oper.wp
        go_simp
        exact ⟨.int .i64 p, rfl, HC.out, Below.refl _ _, rfl⟩
      · have h23 : u 23 = .int .i64 p := hR ⟨11, .data⟩ (by simp) rfl
        clear hR
        simp only [h23]
        clear h23
        refine if_yes (by kernel_rfl) ?_
        unfold Oper.wp
        go_simp
        refine (is_below p 3 _).mono ?_
        rintro e w2 ⟨rfl, hb2⟩
        exact ⟨.bool (belowB p 3), rfl, HC.out.call hb2, hb2, rfl⟩
      · have h16 : u 16 = .bool (belowB x b) := hR ⟨4, .data⟩ (by simp) rfl
        have h21 : u 21 = .bool (belowB z l) := hR ⟨9, .data⟩ (by simp) rfl
        have h24 : u 24 = .bool (belowB p 3) := hR ⟨12, .data⟩ (by simp) rfl
        clear hR
        simp only [h16, h21, h24]
        clear h16 h21 h24
        refine if_yes (by kernel_rfl) ?_
        unfold Oper.wp
        go_simp
        exact ⟨.slice (some ⟨w'.heap.size, 0, none⟩) 3 3, rfl, HC.out.call ((Below.refl _ _).alloc (Nat.le_refl _) _), (Below.refl _ _).alloc (Nat.le_refl _) _, ⟨w'.heap.size, _, rfl, Blk.new w' _ _⟩⟩
      · obtain ⟨g, t, hg, hz⟩ := hR ⟨13, .data⟩ (by simp) rfl
        have hg : u 25 = .slice (some ⟨g, 0, none⟩) 3 3 := hg
        clear hR
        refine if_yes (by kernel_rfl) ?_
        simp only [hg]
        unfold Oper.wp
        go_simp
        refine (all_any g 3 (nuL b l x z p) _ (by simp [nuL]) (bools_cell hz)).mono ?_
        rintro e w2 ⟨rfl, rfl⟩
        exact ⟨.bool (nuB b l x z p), rfl, HC.out, Below.refl _ _, rfl⟩
      · have h26 : u 26 = .bool (nuB b l x z p) := hR ⟨14, .data⟩ (by simp) rfl
        clear hR
        simp only [h26]
        clear h26
        refine if_yes (by kernel_rfl) ?_
        unfold Oper.wp
        go_simp
        exact ⟨.bool (!nuB b l x z p), rfl, HC.out, Below.refl _ _, rfl⟩
    · intro a w' hC hB hR
      have h27 : a.tmps.getD 27 undef = .bool (!nuB b l x z p) := hR 15 (by decide)
      clear hR
      have HE := Lib.hid hC.2.2
      have HG := Lib.hid hC.1
      have HA := Lib.hid hC.2.1
      clear hC HC0
      obtain ⟨u, rfl⟩ := hB
      have h27 : u 27 = .bool (!nuB b l x z p) := h27
      simp only [h27]
      clear h27
      by_cases hh : HasG b l x z p
      · rw [(nu_iff b l x z p).2 hh]
        have HH := Lib.hid hh
        obtain ⟨q1, q2, q3, q4⟩ := HQ.out
        obtain ⟨r1, r2, r3, r4, r5, r6⟩ := hh
        have g1 : w'.cell? ⟨w.heap.size, 1, none⟩ = some (.int .i64 l) := HG.out.cell 1
        have a0 : w'.cell? ⟨w.heap.size + 1, 0, none⟩ = some (.int .i64 x) := HA.out.cell 0
        have a1 : w'.cell? ⟨w.heap.size + 1, 1, none⟩ = some (.int .i64 z) := HA.out.cell 1
        have a2 : w'.cell? ⟨w.heap.size + 1, 2, none⟩ = some (.int .i64 p) := HA.out.cell 2
        have hm := mul_bd (a := x) (c := l) (A := 64) (C := 64) (by omega) (by omega) (by omega) (by omega)
        go_wp2_with fail
        go_ret2
        exact ⟨by rw [(num_ok HOK.out HH.out).1, (num_ok HOK.out HH.out).2]; rfl, HE.out⟩
      · have HH := Lib.hid hh
        rw [show nuB b l x z p = false by rw [← Bool.not_eq_true, nu_iff]; exact hh]
        clear hh
        go_wp2_with fail
        go_ret2
        exact ⟨by rw [(num_none HOK.out HH.out).1, (num_none HOK.out HH.out).2]; rfl, HE.out⟩
  · have HOK := Lib.hid hok
    rw [chk_no hok]
    clear hok
    go_wp2_with fail
    go_ret2
    exact ⟨by rw [(num_geo HOK.out).1, (num_geo HOK.out).2]; rfl, HC0.out.2.2⟩

end Go.Proofs.Ytejgdaekomdhlaa
