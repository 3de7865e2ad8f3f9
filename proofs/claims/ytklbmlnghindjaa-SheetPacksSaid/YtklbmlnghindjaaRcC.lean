/- Package rec, walked: May, Put, Take. -/
import Derived.Test.YtklbmlnghindjaaRcM
import Derived.Test.YtklbmlnghindjaaBitsP
import Derived.Test.YtklbmlnghindjaaTagR
import Derived.Test.YtklbmlnghindjaaBs
namespace Go.Proofs.Ytklbmlnghindjaa
set_option maxRecDepth 100000
open Go.RowKit

def winB (v l m : Int) : Bool := decide (l ≤ v ∧ v ≤ m)
theorem rec_within (v l m : Int) (w : World) : Calls Try.prog 21 #[.int .i64 v, .int .i64 l, .int .i64 m] w fun r w' => r = .returned (.bool (winB v l m)) ∧ w = w' := by
  unfold winB
  go_enter Try.func21, Try.ntmps21
  go_wp2
  all_goals go_ret
  all_goals exact ⟨ret_bool (by rw [Bool.eq_iff_iff]; simp; try omega), rfl⟩

theorem rec_put1 (v : Int) (n : Nat) (w : World) (h1 : 1 ≤ n) (h2 : n ≤ 8) (v0 : 0 ≤ v) (v1 : v < p2 (8 * n)) (v2 : v ≤ 9223372036854775807) :
    Calls Try.prog 19 #[.int .i64 v, .int .i64 n] w (NumPost v n w) := by
  have HV := Lib.hid v1
  clear v1
  go_enter Try.func19, Try.ntmps19
  go_wp2_with fail
  refine (put_fit v n _ h1 h2 v0 HV.out).mono ?_
  rintro r w1 ⟨rfl, hb1⟩
  have HB1 := Lib.hid hb1
  clear hb1
  go_wp2_with fail
  go_ret
  exact ⟨rfl, HB1.out⟩
theorem may_low (k a b : Int) (hk : k = 1 ∨ k = 2) : mayR k a b = (winB a 0 4096 && winB b 0 281474976710655) := by
  rw [Bool.eq_iff_iff, mayR_iff]; unfold MayR winB; simp only [Bool.and_eq_true, decide_eq_true_eq]; omega
theorem may_com (a b : Int) : mayR 3 a b = (winB a 0 63 && winB b 1 4294967295) := by
  rw [Bool.eq_iff_iff, mayR_iff]; unfold MayR winB; simp only [Bool.and_eq_true, decide_eq_true_eq]; simp; try omega
theorem may_era (a b : Int) (hb : b = 1 ∨ b = 2) : mayR 4 a b = (winB a 0 63 && winB b 1 4294967295) := by
  rw [Bool.eq_iff_iff, mayR_iff]; unfold MayR winB; simp only [Bool.and_eq_true, decide_eq_true_eq]; simp; try omega
theorem may_era_no (a b : Int) (h1 : b ≠ 1) (h2 : b ≠ 2) : mayR 4 a b = false := by
  rw [← Bool.not_eq_true, mayR_iff]; unfold MayR; omega
theorem may_none (k a b : Int) (h1 : k ≠ 1) (h2 : k ≠ 2) (h3 : k ≠ 3) (h4 : k ≠ 4) : mayR k a b = false := by
  rw [← Bool.not_eq_true, mayR_iff]; unfold MayR; omega

theorem rec_may (k a b : Int) (w : World) : Calls Try.prog 18 #[.agg (ra k a b)] w (MayP k a b w) := by
  have HB : Hid (Below w.heap.size w (w.alloc (.cells (ra k a b) 33))) := (Below.refl _ _).alloc (Nat.le_refl _) _
  unfold MayP
  unfold ra at *
  by_cases h1 : k = 1 ∨ k = 2
  · rw [may_low k a b h1]
    obtain ⟨p, ep⟩ : ∃ p, winB a 0 4096 = p := ⟨_, rfl⟩
    obtain ⟨q, eq⟩ : ∃ q, winB b 0 281474976710655 = q := ⟨_, rfl⟩
    rw [ep, eq]
    have EP := Lib.hid ep; have EQ := Lib.hid eq
    clear ep eq
    rcases h1 with rfl | rfl
    all_goals
      go_enter Try.func18, Try.ntmps18
      go_wp2_with fail
      refine (rec_within a 0 4096 _).mono ?_
      rintro r w1 ⟨rfl, rfl⟩
      rw [EP.out]
      cases p
      · go_wp2_with fail
        go_ret
        exact ⟨rfl, HB.out⟩
      · go_wp2_with fail
        refine (rec_within b 0 281474976710655 _).mono ?_
        rintro r w1 ⟨rfl, rfl⟩
        rw [EQ.out]
        go_wp2_with fail
        go_ret
        exact ⟨by cases q <;> rfl, HB.out⟩
  · by_cases h3 : k = 3
    · subst h3
      clear h1
      rw [may_com a b]
      obtain ⟨p, ep⟩ : ∃ p, winB a 0 63 = p := ⟨_, rfl⟩
      obtain ⟨q, eq⟩ : ∃ q, winB b 1 4294967295 = q := ⟨_, rfl⟩
      rw [ep, eq]
      have EP := Lib.hid ep; have EQ := Lib.hid eq
      clear ep eq
      go_enter Try.func18, Try.ntmps18
      go_wp2_with fail
      refine (rec_within a 0 63 _).mono ?_
      rintro r w1 ⟨rfl, rfl⟩
      rw [EP.out]
      cases p
      · go_wp2_with fail
        go_ret
        exact ⟨rfl, HB.out⟩
      · go_wp2_with fail
        refine (rec_within b 1 4294967295 _).mono ?_
        rintro r w1 ⟨rfl, rfl⟩
        rw [EQ.out]
        go_wp2_with fail
        go_ret
        exact ⟨by cases q <;> rfl, HB.out⟩
    · by_cases h4 : k = 4
      · subst h4
        clear h1 h3
        by_cases hb : b = 1 ∨ b = 2
        · rw [may_era a b hb]
          obtain ⟨p, ep⟩ : ∃ p, winB a 0 63 = p := ⟨_, rfl⟩
          obtain ⟨q, eq⟩ : ∃ q, winB b 1 4294967295 = q := ⟨_, rfl⟩
          rw [ep, eq]
          have EP := Lib.hid ep; have EQ := Lib.hid eq
          clear ep eq
          rcases hb with rfl | rfl
          all_goals
            go_enter Try.func18, Try.ntmps18
            go_wp2_with fail
            refine (rec_within a 0 63 _).mono ?_
            rintro r w1 ⟨rfl, rfl⟩
            rw [EP.out]
            cases p
            · go_wp2_with fail
              go_ret
              exact ⟨rfl, HB.out⟩
            · go_wp2_with fail
              refine (rec_within _ 1 4294967295 _).mono ?_
              rintro r w1 ⟨rfl, rfl⟩
              rw [EQ.out]
              go_wp2_with fail
              go_ret
              exact ⟨by cases q <;> rfl, HB.out⟩
        · have b1 : b ≠ 1 := fun h => hb (Or.inl h)
          have b2 : b ≠ 2 := fun h => hb (Or.inr h)
          rw [may_era_no a b b1 b2]
          have e1 : (b != 1) = true := bne_iff_ne.2 b1
          have e2 : (b != 2) = true := bne_iff_ne.2 b2
          clear hb
          go_enter Try.func18, Try.ntmps18
          go_wp2_with fail
          go_ret
          exact ⟨rfl, HB.out⟩
      · have k1 : k ≠ 1 := fun h => h1 (Or.inl h)
        have k2 : k ≠ 2 := fun h => h1 (Or.inr h)
        rw [may_none k a b k1 k2 h3 h4]
        have e1 : (k == 1) = false := beq_eq_false_iff_ne.2 k1
        have e2 : (k == 2) = false := beq_eq_false_iff_ne.2 k2
        have e3 : (k == 3) = false := beq_eq_false_iff_ne.2 h3
        have e4 : (k == 4) = false := beq_eq_false_iff_ne.2 h4
        clear h1
        go_enter Try.func18, Try.ntmps18
        go_wp2_with fail
        go_ret
        exact ⟨rfl, HB.out⟩

/-- what each operation of the region PC leaves -/
def vsPC (B : Nat) (k a b : Int) : List (Option (Tmp × Value)) :=
  [some (7, .pointer (some ⟨B, 0, none⟩)), some (8, .int .i64 k), some (9, .string (leS k 1)), some (10, .pointer (some ⟨B, 1, none⟩)), some (11, .int .i64 a), some (12, .string (leS a 2)), some (13, .string (leS k 1 ++ leS a 2)), some (14, .pointer (some ⟨B, 2, none⟩)), some (15, .int .i64 b), some (16, .string (leS b 6)), some (17, .string ((leS k 1 ++ leS a 2) ++ leS b 6)), some (2, .string ((leS k 1 ++ leS a 2) ++ leS b 6)), some (3, .int .i64 0)]
/-- the frame while the region PC runs -/
def BasePC (B : Nat) (a : Act) : Prop := ∃ u : Nat → Value, a = ⟨#[u 0, .pointer (some ⟨B, 0, none⟩), u 2, u 3, u 4, u 5, u 6, u 7, u 8, u 9, u 10, u 11, u 12, u 13, u 14, u 15, u 16, u 17], []⟩
theorem BasePC.of {B : Nat} (arr : Array Value) (h : arr = #[arr.getD 0 undef, .pointer (some ⟨B, 0, none⟩), arr.getD 2 undef, arr.getD 3 undef, arr.getD 4 undef, arr.getD 5 undef, arr.getD 6 undef, arr.getD 7 undef, arr.getD 8 undef, arr.getD 9 undef, arr.getD 10 undef, arr.getD 11 undef, arr.getD 12 undef, arr.getD 13 undef, arr.getD 14 undef, arr.getD 15 undef, arr.getD 16 undef, arr.getD 17 undef]) : BasePC B ⟨arr, []⟩ := ⟨fun i => arr.getD i undef, by rw [← h]⟩
theorem BasePC.put7 {B : Nat} (a : Act) (v : Value) (h : BasePC B a) : BasePC B (a.put (some 7) v) := by
  obtain ⟨u, rfl⟩ := h
  exact ⟨fun i => if i = 7 then v else u i, by kernel_rfl⟩
theorem BasePC.put8 {B : Nat} (a : Act) (v : Value) (h : BasePC B a) : BasePC B (a.put (some 8) v) := by
  obtain ⟨u, rfl⟩ := h
  exact ⟨fun i => if i = 8 then v else u i, by kernel_rfl⟩
theorem BasePC.put9 {B : Nat} (a : Act) (v : Value) (h : BasePC B a) : BasePC B (a.put (some 9) v) := by
  obtain ⟨u, rfl⟩ := h
  exact ⟨fun i => if i = 9 then v else u i, by kernel_rfl⟩
theorem BasePC.put10 {B : Nat} (a : Act) (v : Value) (h : BasePC B a) : BasePC B (a.put (some 10) v) := by
  obtain ⟨u, rfl⟩ := h
  exact ⟨fun i => if i = 10 then v else u i, by kernel_rfl⟩
theorem BasePC.put11 {B : Nat} (a : Act) (v : Value) (h : BasePC B a) : BasePC B (a.put (some 11) v) := by
  obtain ⟨u, rfl⟩ := h
  exact ⟨fun i => if i = 11 then v else u i, by kernel_rfl⟩
theorem BasePC.put12 {B : Nat} (a : Act) (v : Value) (h : BasePC B a) : BasePC B (a.put (some 12) v) := by
  obtain ⟨u, rfl⟩ := h
  exact ⟨fun i => if i = 12 then v else u i, by kernel_rfl⟩
theorem BasePC.put13 {B : Nat} (a : Act) (v : Value) (h : BasePC B a) : BasePC B (a.put (some 13) v) := by
  obtain ⟨u, rfl⟩ := h
  exact ⟨fun i => if i = 13 then v else u i, by kernel_rfl⟩
theorem BasePC.put14 {B : Nat} (a : Act) (v : Value) (h : BasePC B a) : BasePC B (a.put (some 14) v) := by
  obtain ⟨u, rfl⟩ := h
  exact ⟨fun i => if i = 14 then v else u i, by kernel_rfl⟩
theorem BasePC.put15 {B : Nat} (a : Act) (v : Value) (h : BasePC B a) : BasePC B (a.put (some 15) v) := by
  obtain ⟨u, rfl⟩ := h
  exact ⟨fun i => if i = 15 then v else u i, by kernel_rfl⟩
theorem BasePC.put16 {B : Nat} (a : Act) (v : Value) (h : BasePC B a) : BasePC B (a.put (some 16) v) := by
  obtain ⟨u, rfl⟩ := h
  exact ⟨fun i => if i = 16 then v else u i, by kernel_rfl⟩
theorem BasePC.put17 {B : Nat} (a : Act) (v : Value) (h : BasePC B a) : BasePC B (a.put (some 17) v) := by
  obtain ⟨u, rfl⟩ := h
  exact ⟨fun i => if i = 17 then v else u i, by kernel_rfl⟩
theorem BasePC.put2 {B : Nat} (a : Act) (v : Value) (h : BasePC B a) : BasePC B (a.put (some 2) v) := by
  obtain ⟨u, rfl⟩ := h
  exact ⟨fun i => if i = 2 then v else u i, by kernel_rfl⟩
theorem BasePC.put3 {B : Nat} (a : Act) (v : Value) (h : BasePC B a) : BasePC B (a.put (some 3) v) := by
  obtain ⟨u, rfl⟩ := h
  exact ⟨fun i => if i = 3 then v else u i, by kernel_rfl⟩
/-- what each operation of the region TC leaves -/
def vsTC (s s1 s2 s6 : ByteArray) (k x y : Int) : List (Option (Tmp × Value)) :=
  [some (9, .string s), some (10, .string s1), some (11, .int .i64 k), some (12, .string s), some (13, .string s2), some (14, .int .i64 x), some (15, .string s), some (16, .string s6), some (17, .int .i64 y), some (18, .agg (ra k x y)), none, none]
/-- the frame while the region TC runs -/
def BaseTC (s : ByteArray) (B : Nat) (a : Act) : Prop := ∃ u : Nat → Value, a = ⟨#[.string s, u 1, .pointer (some ⟨B, 0, none⟩), u 3, u 4, u 5, u 6, u 7, u 8, u 9, u 10, u 11, u 12, u 13, u 14, u 15, u 16, u 17, u 18, u 19, u 20, u 21, u 22, u 23], []⟩
theorem BaseTC.of {s : ByteArray} {B : Nat} (arr : Array Value) (h : arr = #[.string s, arr.getD 1 undef, .pointer (some ⟨B, 0, none⟩), arr.getD 3 undef, arr.getD 4 undef, arr.getD 5 undef, arr.getD 6 undef, arr.getD 7 undef, arr.getD 8 undef, arr.getD 9 undef, arr.getD 10 undef, arr.getD 11 undef, arr.getD 12 undef, arr.getD 13 undef, arr.getD 14 undef, arr.getD 15 undef, arr.getD 16 undef, arr.getD 17 undef, arr.getD 18 undef, arr.getD 19 undef, arr.getD 20 undef, arr.getD 21 undef, arr.getD 22 undef, arr.getD 23 undef]) : BaseTC s B ⟨arr, []⟩ := ⟨fun i => arr.getD i undef, by rw [← h]⟩
theorem BaseTC.put9 {s : ByteArray} {B : Nat} (a : Act) (v : Value) (h : BaseTC s B a) : BaseTC s B (a.put (some 9) v) := by
  obtain ⟨u, rfl⟩ := h
  exact ⟨fun i => if i = 9 then v else u i, by kernel_rfl⟩
theorem BaseTC.put10 {s : ByteArray} {B : Nat} (a : Act) (v : Value) (h : BaseTC s B a) : BaseTC s B (a.put (some 10) v) := by
  obtain ⟨u, rfl⟩ := h
  exact ⟨fun i => if i = 10 then v else u i, by kernel_rfl⟩
theorem BaseTC.put11 {s : ByteArray} {B : Nat} (a : Act) (v : Value) (h : BaseTC s B a) : BaseTC s B (a.put (some 11) v) := by
  obtain ⟨u, rfl⟩ := h
  exact ⟨fun i => if i = 11 then v else u i, by kernel_rfl⟩
theorem BaseTC.put12 {s : ByteArray} {B : Nat} (a : Act) (v : Value) (h : BaseTC s B a) : BaseTC s B (a.put (some 12) v) := by
  obtain ⟨u, rfl⟩ := h
  exact ⟨fun i => if i = 12 then v else u i, by kernel_rfl⟩
theorem BaseTC.put13 {s : ByteArray} {B : Nat} (a : Act) (v : Value) (h : BaseTC s B a) : BaseTC s B (a.put (some 13) v) := by
  obtain ⟨u, rfl⟩ := h
  exact ⟨fun i => if i = 13 then v else u i, by kernel_rfl⟩
theorem BaseTC.put14 {s : ByteArray} {B : Nat} (a : Act) (v : Value) (h : BaseTC s B a) : BaseTC s B (a.put (some 14) v) := by
  obtain ⟨u, rfl⟩ := h
  exact ⟨fun i => if i = 14 then v else u i, by kernel_rfl⟩
theorem BaseTC.put15 {s : ByteArray} {B : Nat} (a : Act) (v : Value) (h : BaseTC s B a) : BaseTC s B (a.put (some 15) v) := by
  obtain ⟨u, rfl⟩ := h
  exact ⟨fun i => if i = 15 then v else u i, by kernel_rfl⟩
theorem BaseTC.put16 {s : ByteArray} {B : Nat} (a : Act) (v : Value) (h : BaseTC s B a) : BaseTC s B (a.put (some 16) v) := by
  obtain ⟨u, rfl⟩ := h
  exact ⟨fun i => if i = 16 then v else u i, by kernel_rfl⟩
theorem BaseTC.put17 {s : ByteArray} {B : Nat} (a : Act) (v : Value) (h : BaseTC s B a) : BaseTC s B (a.put (some 17) v) := by
  obtain ⟨u, rfl⟩ := h
  exact ⟨fun i => if i = 17 then v else u i, by kernel_rfl⟩
theorem BaseTC.put18 {s : ByteArray} {B : Nat} (a : Act) (v : Value) (h : BaseTC s B a) : BaseTC s B (a.put (some 18) v) := by
  obtain ⟨u, rfl⟩ := h
  exact ⟨fun i => if i = 18 then v else u i, by kernel_rfl⟩
theorem BaseTC.put4 {s : ByteArray} {B : Nat} (a : Act) (v : Value) (h : BaseTC s B a) : BaseTC s B (a.put (some 4) v) := by
  obtain ⟨u, rfl⟩ := h
  exact ⟨fun i => if i = 4 then v else u i, by kernel_rfl⟩

set_option maxHeartbeats 1000000 in
theorem rec_put_yes (k a b : Int) (w : World) (hm : MayR k a b) : Calls Try.prog 15 #[.agg (ra k a b)] w fun r w' => r = .returned (.tuple #[.string (recS k a b), .int .i64 0]) ∧ Below w.heap.size w w' := by
  have HB : Hid (mayR k a b = true) := (mayR_iff k a b).2 hm
  have HN := Lib.hid (may_in hm)
  clear hm
  go_enter Try.func15, Try.ntmps15
  go_wp2_with (refine wpList_load_row rfl 33 (.tmp 1) rfl w.heap.size rfl 33 (ra k a b) (0, 0) _ (Blk.new w (ra k a b) 33) Try.underlying33 rfl size_rec ?_)
  refine (rec_may k a b _).mono ?_
  rintro r w1 ⟨rfl, hb1⟩
  have HK1 : Hid (CR w.heap.size k a b w w1) := ⟨(Blk.new w (ra k a b) 33).after hb1, ((Below.refl _ _).alloc (Nat.le_refl _) _).trans (hb1.mono (by simp))⟩
  rw [HB.out]
  clear hb1 HB
  go_wp2_with fail
  rename_i K0 hK0
  refine wp_region_list3 (SV (vsPC w.heap.size k a b) []) (BasePC w.heap.size) (CR w.heap.size k a b w) (Goes) (RV (vsPC w.heap.size k a b) (fun _ _ _ => False)) rfl (by kernel_rfl) (RV.ext no_specialR) ?_ (HK1.out.call (Below.refl _ _).drew) (BasePC.of _ (by kernel_rfl)) ?_ ?_
  · exact ⟨BasePC.put7, BasePC.put8, BasePC.put9, BasePC.put10, BasePC.put11, BasePC.put12, BasePC.put13, BasePC.put14, BasePC.put15, BasePC.put16, BasePC.put17, BasePC.put2, BasePC.put3, trivial⟩
  · refine ⟨?_, ?_, ?_, ?_, ?_, ?_, ?_, ?_, ?_, ?_, ?_, ?_, ?_, trivial⟩
    all_goals
      intro a w' hC hB hR
      obtain ⟨u, rfl⟩ := hB
      have HC := Lib.hid hC
      clear hC
      clear hK0
    · clear hR
      refine if_yes (by kernel_rfl) ?_
      unfold Oper.wp
      go_simp
      exact ⟨.pointer (some ⟨w.heap.size, 0, none⟩), rfl, HC.out, Below.refl _ _, rfl⟩
    · have h7 : u 7 = .pointer (some ⟨w.heap.size, 0, none⟩) := hR ⟨0, .data⟩ (by simp) rfl
      have c0 : w'.cell? ⟨w.heap.size, 0, none⟩ = some (.int .i64 k) := HC.out.1.cell 0
      clear hR
      simp only [h7]
      clear h7
      refine if_yes (by kernel_rfl) ?_
      unfold Oper.wp
      go_simp
      exact ⟨.int .i64 k, rfl, HC.out, Below.refl _ _, rfl⟩
    · have h8 : u 8 = .int .i64 k := hR ⟨1, .data⟩ (by simp) rfl
      clear hR
      simp only [h8]
      clear h8
      refine if_yes (by kernel_rfl) ?_
      unfold Oper.wp
      go_simp
      refine (rec_put1 k 1 _ (by decide) (by decide) HN.out.1.1 HN.out.1.2.1 HN.out.1.2.2).mono ?_
      rintro r w2 ⟨rfl, hb2⟩
      exact ⟨.string (leS k 1), rfl, HC.out.call hb2, hb2, rfl⟩
    · clear hR
      refine if_yes (by kernel_rfl) ?_
      unfold Oper.wp
      go_simp
      exact ⟨.pointer (some ⟨w.heap.size, 1, none⟩), rfl, HC.out, Below.refl _ _, rfl⟩
    · have h10 : u 10 = .pointer (some ⟨w.heap.size, 1, none⟩) := hR ⟨3, .data⟩ (by simp) rfl
      have c1 : w'.cell? ⟨w.heap.size, 1, none⟩ = some (.int .i64 a) := HC.out.1.cell 1
      clear hR
      simp only [h10]
      clear h10
      refine if_yes (by kernel_rfl) ?_
      unfold Oper.wp
      go_simp
      exact ⟨.int .i64 a, rfl, HC.out, Below.refl _ _, rfl⟩
    · have h11 : u 11 = .int .i64 a := hR ⟨4, .data⟩ (by simp) rfl
      clear hR
      simp only [h11]
      clear h11
      refine if_yes (by kernel_rfl) ?_
      unfold Oper.wp
      go_simp
      refine (rec_put1 a 2 _ (by decide) (by decide) HN.out.2.1.1 HN.out.2.1.2.1 HN.out.2.1.2.2).mono ?_
      rintro r w2 ⟨rfl, hb2⟩
      exact ⟨.string (leS a 2), rfl, HC.out.call hb2, hb2, rfl⟩
    · have h9 : u 9 = .string (leS k 1) := hR ⟨2, .data⟩ (by simp) rfl
      have h12 : u 12 = .string (leS a 2) := hR ⟨5, .data⟩ (by simp) rfl
      have z1 := leS_size k 1
      have z2 := leS_size a 2
      clear hR
      simp only [h9, h12]
      clear h9 h12
      refine if_yes (by kernel_rfl) ?_
      unfold Oper.wp
      go_simp
      exact ⟨.string (leS k 1 ++ leS a 2), rfl, HC.out, Below.refl _ _, rfl⟩
    · clear hR
      refine if_yes (by kernel_rfl) ?_
      unfold Oper.wp
      go_simp
      exact ⟨.pointer (some ⟨w.heap.size, 2, none⟩), rfl, HC.out, Below.refl _ _, rfl⟩
    · have h14 : u 14 = .pointer (some ⟨w.heap.size, 2, none⟩) := hR ⟨7, .data⟩ (by simp) rfl
      have c2 : w'.cell? ⟨w.heap.size, 2, none⟩ = some (.int .i64 b) := HC.out.1.cell 2
      clear hR
      simp only [h14]
      clear h14
      refine if_yes (by kernel_rfl) ?_
      unfold Oper.wp
      go_simp
      exact ⟨.int .i64 b, rfl, HC.out, Below.refl _ _, rfl⟩
    · have h15 : u 15 = .int .i64 b := hR ⟨8, .data⟩ (by simp) rfl
      clear hR
      simp only [h15]
      clear h15
      refine if_yes (by kernel_rfl) ?_
      unfold Oper.wp
      go_simp
      refine (rec_put1 b 6 _ (by decide) (by decide) HN.out.2.2.1 HN.out.2.2.2.1 HN.out.2.2.2.2).mono ?_
      rintro r w2 ⟨rfl, hb2⟩
      exact ⟨.string (leS b 6), rfl, HC.out.call hb2, hb2, rfl⟩
    · have h13 : u 13 = .string (leS k 1 ++ leS a 2) := hR ⟨6, .data⟩ (by simp) rfl
      have h16 : u 16 = .string (leS b 6) := hR ⟨9, .data⟩ (by simp) rfl
      have z6 := leS_size b 6
      have z3 : (leS k 1 ++ leS a 2).size = 3 := by rw [ByteArray.size_append, leS_size, leS_size]
      clear hR
      simp only [h13, h16]
      clear h13 h16
      refine if_yes (by kernel_rfl) ?_
      unfold Oper.wp
      go_simp
      exact ⟨.string ((leS k 1 ++ leS a 2) ++ leS b 6), rfl, HC.out, Below.refl _ _, rfl⟩
    · have h17 : u 17 = .string ((leS k 1 ++ leS a 2) ++ leS b 6) := hR ⟨10, .data⟩ (by simp) rfl
      clear hR
      simp only [h17]
      clear h17
      refine if_yes (by kernel_rfl) ?_
      unfold Oper.wp
      go_simp
      exact ⟨.string ((leS k 1 ++ leS a 2) ++ leS b 6), rfl, HC.out, Below.refl _ _, rfl⟩
    · clear hR
      refine if_yes (by kernel_rfl) ?_
      unfold Oper.wp
      go_simp
      exact ⟨.int .i64 0, rfl, HC.out, Below.refl _ _, rfl⟩
  · intro a1 w' hC hB hR
    have h2 : a1.tmps.getD 2 undef = .string ((leS k 1 ++ leS a 2) ++ leS b 6) := hR 11 (by decide)
    have h3 : a1.tmps.getD 3 undef = .int .i64 0 := hR 12 (by decide)
    clear hR
    have HB5 := Lib.hid hC.2
    clear hC
    obtain ⟨u, rfl⟩ := hB
    have h2 : u 2 = .string ((leS k 1 ++ leS a 2) ++ leS b 6) := h2
    have h3 : u 3 = .int .i64 0 := h3
    simp only [h2, h3]
    clear h2 h3
    go_wp2_with fail
    go_ret2
    exact ⟨rfl, HB5.out⟩

theorem rec_put_no (k a b : Int) (w : World) (hm : ¬ MayR k a b) : Calls Try.prog 15 #[.agg (ra k a b)] w fun r w' => r = .returned (.tuple #[.string ByteArray.empty, .int .i64 110]) ∧ Below w.heap.size w w' := by
  have HB : Hid (mayR k a b = false) := by rw [← Bool.not_eq_true, mayR_iff]; exact hm
  clear hm
  go_enter Try.func15, Try.ntmps15
  go_wp2_with (refine wpList_load_row rfl 33 (.tmp 1) rfl w.heap.size rfl 33 (ra k a b) (0, 0) _ (Blk.new w (ra k a b) 33) Try.underlying33 rfl size_rec ?_)
  refine (rec_may k a b _).mono ?_
  rintro r w1 ⟨rfl, hb1⟩
  have HK1 := Lib.hid (((Below.refl w.heap.size w).alloc (Nat.le_refl _) (.cells (ra k a b) 33)).trans (hb1.mono (by simp)))
  rw [HB.out]
  clear hb1
  go_wp2_with fail
  go_ret2
  exact ⟨rfl, HK1.out⟩

theorem rec_put (k a b : Int) (w : World) : Calls Try.prog 15 #[.agg (ra k a b)] w (PutP k a b w) := by
  unfold PutP putRT putRE
  by_cases h : MayR k a b
  · rw [if_pos h, if_pos h]; exact rec_put_yes k a b w h
  · rw [if_neg h, if_neg h]; exact rec_put_no k a b w h

end Go.Proofs.Ytklbmlnghindjaa
