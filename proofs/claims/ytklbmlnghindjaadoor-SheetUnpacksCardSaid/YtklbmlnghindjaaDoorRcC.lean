/- Package rec, walked: May, Put, Take. -/
import Derived.Test.YtklbmlnghindjaaDoorRcM
import Derived.Test.YtklbmlnghindjaaDoorBitsP
import Derived.Test.YtklbmlnghindjaaDoorTagR
import Derived.Test.YtklbmlnghindjaaDoorBs
namespace Go.Proofs.YtklbmlnghindjaaDoor
set_option maxRecDepth 100000
open Go.RowKit

def winB (v l m : Int) : Bool := decide (l ≤ v ∧ v ≤ m)
theorem rec_within (v l m : Int) (w : World) : Calls Tryd.prog 23 #[.int .i64 v, .int .i64 l, .int .i64 m] w fun r w' => r = .returned (.bool (winB v l m)) ∧ w = w' := by
  unfold winB
  go_enter Tryd.func23, Tryd.ntmps23
  go_wp2
  all_goals go_ret
  all_goals exact ⟨ret_bool (by rw [Bool.eq_iff_iff]; simp; try omega), rfl⟩

theorem rec_put1 (v : Int) (n : Nat) (w : World) (h1 : 1 ≤ n) (h2 : n ≤ 8) (v0 : 0 ≤ v) (v1 : v < p2 (8 * n)) (v2 : v ≤ 9223372036854775807) :
    Calls Tryd.prog 36 #[.int .i64 v, .int .i64 n] w (NumPost v n w) := by
  have HV := Lib.hid v1
  clear v1
  go_enter Tryd.func36, Tryd.ntmps36
  go_wp2_with fail
  refine (put_fit v n _ h1 h2 v0 HV.out).mono ?_
  rintro r w1 ⟨rfl, hb1⟩
  have HB1 := Lib.hid hb1
  clear hb1
  go_wp2_with fail
  go_ret
  exact ⟨rfl, HB1.out⟩
theorem rec_get (s : ByteArray) (w : World) (h1 : 1 ≤ s.size) (h2 : s.size ≤ 6) :
    Calls Tryd.prog 34 #[.string s] w fun r w' => r = .returned (.int .i64 (numS s)) ∧ w = w' := by
  have hn : 0 ≤ numS s ∧ numS s < 9223372036854775807 := by
    have h := numTo_bd s s.size (Nat.le_refl _)
    have h3 : p2 (8 * s.size) ≤ p2 48 := p2_le (by omega)
    have h4 : p2 48 = 281474976710656 := by decide
    unfold numS; omega
  obtain ⟨x, hx⟩ : ∃ x, numS s = x := ⟨_, rfl⟩
  have HX := Lib.hid hx
  rw [hx] at hn ⊢
  clear hx
  go_enter Tryd.func34, Tryd.ntmps34
  go_wp2_with fail
  refine (get_yes s _ h1 (by omega)).mono ?_
  rintro r w1 ⟨rfl, rfl⟩
  rw [HX.out]
  go_wp2_with fail
  go_ret
  exact ⟨rfl, rfl⟩

theorem may_low (k a b : Int) (hk : k = 1 ∨ k = 2) : mayR k a b = (winB a 0 4096 && winB b 0 281474976710655) := by
  rw [Bool.eq_iff_iff, mayR_iff]; unfold MayR winB; simp only [Bool.and_eq_true, decide_eq_true_eq]; omega
theorem may_com (a b : Int) : mayR 3 a b = (winB a 0 63 && winB b 1 4294967295) := by
  rw [Bool.eq_iff_iff, mayR_iff]; unfold MayR winB; simp only [Bool.and_eq_true, decide_eq_true_eq]; simp; try omega
theorem may_era (a b : Int) (hb : b = 1 ∨ b = 2) : mayR 4 a b = (winB a 0 63 && winB b 1 4294967295) := by
  rw [Bool.eq_iff_iff, mayR_iff]; unfold MayR winB; simp only [Bool.and_eq_true, decide_eq_true_eq]; simp; try omega
theorem may_era_no (a b : Int) (h1 : b ≠ 1) (h2 : b ≠ 2) : mayR 4 a b = false := by
  rw [← Bool.not_eq_true, mayR_iff]; unfold MayR; omega
theorem may_none (k a b : Int) (h1 : k ≠ 1) (h2 : k ≠ 2) (h3 : k ≠ 3) (h4 : k ≠ 4) : mayR k a b = false := by
  rw [← Bool.not_eq_true, mayR_iff]; unfold MayR; omega

theorem rec_may (k a b : Int) (w : World) : Calls Tryd.prog 14 #[.agg (ra k a b)] w (MayP k a b w) := by
  have HB : Hid (Below w.heap.size w (w.alloc (.cells (ra k a b) 32))) := (Below.refl _ _).alloc (Nat.le_refl _) _
  unfold MayP
  unfold ra at *
  by_cases h1 : k = 1 ∨ k = 2
  · rw [may_low k a b h1]
    obtain ⟨p, ep⟩ : ∃ p, winB a 0 4096 = p := ⟨_, rfl⟩
    obtain ⟨q, eq⟩ : ∃ q, winB b 0 281474976710655 = q := ⟨_, rfl⟩
    rw [ep, eq]
    have EP := Lib.hid ep; have EQ := Lib.hid eq
    clear ep eq
    rcases h1 with rfl | rfl
    all_goals
      go_enter Tryd.func14, Tryd.ntmps14
      go_wp2_with fail
      refine (rec_within a 0 4096 _).mono ?_
      rintro r w1 ⟨rfl, rfl⟩
      rw [EP.out]
      cases p
      · go_wp2_with fail
        go_ret
        exact ⟨rfl, HB.out⟩
      · go_wp2_with fail
        refine (rec_within b 0 281474976710655 _).mono ?_
        rintro r w1 ⟨rfl, rfl⟩
        rw [EQ.out]
        go_wp2_with fail
        go_ret
        exact ⟨by cases q <;> rfl, HB.out⟩
  · by_cases h3 : k = 3
    · subst h3
      clear h1
      rw [may_com a b]
      obtain ⟨p, ep⟩ : ∃ p, winB a 0 63 = p := ⟨_, rfl⟩
      obtain ⟨q, eq⟩ : ∃ q, winB b 1 4294967295 = q := ⟨_, rfl⟩
      rw [ep, eq]
      have EP := Lib.hid ep; have EQ := Lib.hid eq
      clear ep eq
      go_enter Tryd.func14, Tryd.ntmps14
      go_wp2_with fail
      refine (rec_within a 0 63 _).mono ?_
      rintro r w1 ⟨rfl, rfl⟩
      rw [EP.out]
      cases p
      · go_wp2_with fail
        go_ret
        exact ⟨rfl, HB.out⟩
      · go_wp2_with fail
        refine (rec_within b 1 4294967295 _).mono ?_
        rintro r w1 ⟨rfl, rfl⟩
        rw [EQ.out]
        go_wp2_with fail
        go_ret
        exact ⟨by cases q <;> rfl, HB.out⟩
    · by_cases h4 : k = 4
      · subst h4
        clear h1 h3
        by_cases hb : b = 1 ∨ b = 2
        · rw [may_era a b hb]
          obtain ⟨p, ep⟩ : ∃ p, winB a 0 63 = p := ⟨_, rfl⟩
          obtain ⟨q, eq⟩ : ∃ q, winB b 1 4294967295 = q := ⟨_, rfl⟩
          rw [ep, eq]
          have EP := Lib.hid ep; have EQ := Lib.hid eq
          clear ep eq
          rcases hb with rfl | rfl
          all_goals
            go_enter Tryd.func14, Tryd.ntmps14
            go_wp2_with fail
            refine (rec_within a 0 63 _).mono ?_
            rintro r w1 ⟨rfl, rfl⟩
            rw [EP.out]
            cases p
            · go_wp2_with fail
              go_ret
              exact ⟨rfl, HB.out⟩
            · go_wp2_with fail
              refine (rec_within _ 1 4294967295 _).mono ?_
              rintro r w1 ⟨rfl, rfl⟩
              rw [EQ.out]
              go_wp2_with fail
              go_ret
              exact ⟨by cases q <;> rfl, HB.out⟩
        · have b1 : b ≠ 1 := fun h => hb (Or.inl h)
          have b2 : b ≠ 2 := fun h => hb (Or.inr h)
          rw [may_era_no a b b1 b2]
          have e1 : (b != 1) = true := bne_iff_ne.2 b1
          have e2 : (b != 2) = true := bne_iff_ne.2 b2
          clear hb
          go_enter Tryd.func14, Tryd.ntmps14
          go_wp2_with fail
          go_ret
          exact ⟨rfl, HB.out⟩
      · have k1 : k ≠ 1 := fun h => h1 (Or.inl h)
        have k2 : k ≠ 2 := fun h => h1 (Or.inr h)
        rw [may_none k a b k1 k2 h3 h4]
        have e1 : (k == 1) = false := beq_eq_false_iff_ne.2 k1
        have e2 : (k == 2) = false := beq_eq_false_iff_ne.2 k2
        have e3 : (k == 3) = false := beq_eq_false_iff_ne.2 h3
        have e4 : (k == 4) = false := beq_eq_false_iff_ne.2 h4
        clear h1
        go_enter Tryd.func14, Tryd.ntmps14
        go_wp2_with fail
        go_ret
        exact ⟨rfl, HB.out⟩

/-- what each operation of the region PC leaves -/
def vsPC (B : Nat) (k a b : Int) : List (Option (Tmp × Value)) :=
  [some (7, .pointer (some ⟨B, 0, none⟩)), some (8, .int .i64 k), some (9, .string (leS k 1)), some (10, .pointer (some ⟨B, 1, none⟩)), some (11, .int .i64 a), some (12, .string (leS a 2)), some (13, .string (leS k 1 ++ leS a 2)), some (14, .pointer (some ⟨B, 2, none⟩)), some (15, .int .i64 b), some (16, .string (leS b 6)), some (17, .string ((leS k 1 ++ leS a 2) ++ leS b 6)), some (2, .string ((leS k 1 ++ leS a 2) ++ leS b 6)), some (3, .int .i64 0)]
/-- the frame while the region PC runs -/
def BasePC (B : Nat) (a : Act) : Prop := ∃ u : Nat → Value, a = ⟨#[u 0, .pointer (some ⟨B, 0, none⟩), u 2, u 3, u 4, u 5, u 6, u 7, u 8, u 9, u 10, u 11, u 12, u 13, u 14, u 15, u 16, u 17], []⟩
theorem BasePC.of {B : Nat} (arr : Array Value) (h : arr = #[arr.getD 0 undef, .pointer (some ⟨B, 0, none⟩), arr.getD 2 undef, arr.getD 3 undef, arr.getD 4 undef, arr.getD 5 undef, arr.getD 6 undef, arr.getD 7 undef, arr.getD 8 undef, arr.getD 9 undef, arr.getD 10 undef, arr.getD 11 undef, arr.getD 12 undef, arr.getD 13 undef, arr.getD 14 undef, arr.getD 15 undef, arr.getD 16 undef, arr.getD 17 undef]) : BasePC B ⟨arr, []⟩ := ⟨fun i => arr.getD i undef, by rw [← h]⟩
theorem BasePC.put7 {B : Nat} (a : Act) (v : Value) (h : BasePC B a) : BasePC B (a.put (some 7) v) := by
  obtain ⟨u, rfl⟩ := h
  exact ⟨fun i => if i = 7 then v else u i, by kernel_rfl⟩
theorem BasePC.put8 {B : Nat} (a : Act) (v : Value) (h : BasePC B a) : BasePC B (a.put (some 8) v) := by
  obtain ⟨u, rfl⟩ := h
  exact ⟨fun i => if i = 8 then v else u i, by kernel_rfl⟩
theorem BasePC.put9 {B : Nat} (a : Act) (v : Value) (h : BasePC B a) : BasePC B (a.put (some 9) v) := by
  obtain ⟨u, rfl⟩ := h
  exact ⟨fun i => if i = 9 then v else u i, by kernel_rfl⟩
theorem BasePC.put10 {B : Nat} (a : Act) (v : Value) (h : BasePC B a) : BasePC B (a.put (some 10) v) := by
  obtain ⟨u, rfl⟩ := h
  exact ⟨fun i => if i = 10 then v else u i, by kernel_rfl⟩
theorem BasePC.put11 {B : Nat} (a : Act) (v : Value) (h : BasePC B a) : BasePC B (a.put (some 11) v) := by
  obtain ⟨u, rfl⟩ := h
  exact ⟨fun i => if i = 11 then v else u i, by kernel_rfl⟩
theorem BasePC.put12 {B : Nat} (a : Act) (v : Value) (h : BasePC B a) : BasePC B (a.put (some 12) v) := by
  obtain ⟨u, rfl⟩ := h
  exact ⟨fun i => if i = 12 then v else u i, by kernel_rfl⟩
theorem BasePC.put13 {B : Nat} (a : Act) (v : Value) (h : BasePC B a) : BasePC B (a.put (some 13) v) := by
  obtain ⟨u, rfl⟩ := h
  exact ⟨fun i => if i = 13 then v else u i, by kernel_rfl⟩
theorem BasePC.put14 {B : Nat} (a : Act) (v : Value) (h : BasePC B a) : BasePC B (a.put (some 14) v) := by
  obtain ⟨u, rfl⟩ := h
  exact ⟨fun i => if i = 14 then v else u i, by kernel_rfl⟩
theorem BasePC.put15 {B : Nat} (a : Act) (v : Value) (h : BasePC B a) : BasePC B (a.put (some 15) v) := by
  obtain ⟨u, rfl⟩ := h
  exact ⟨fun i => if i = 15 then v else u i, by kernel_rfl⟩
theorem BasePC.put16 {B : Nat} (a : Act) (v : Value) (h : BasePC B a) : BasePC B (a.put (some 16) v) := by
  obtain ⟨u, rfl⟩ := h
  exact ⟨fun i => if i = 16 then v else u i, by kernel_rfl⟩
theorem BasePC.put17 {B : Nat} (a : Act) (v : Value) (h : BasePC B a) : BasePC B (a.put (some 17) v) := by
  obtain ⟨u, rfl⟩ := h
  exact ⟨fun i => if i = 17 then v else u i, by kernel_rfl⟩
theorem BasePC.put2 {B : Nat} (a : Act) (v : Value) (h : BasePC B a) : BasePC B (a.put (some 2) v) := by
  obtain ⟨u, rfl⟩ := h
  exact ⟨fun i => if i = 2 then v else u i, by kernel_rfl⟩
theorem BasePC.put3 {B : Nat} (a : Act) (v : Value) (h : BasePC B a) : BasePC B (a.put (some 3) v) := by
  obtain ⟨u, rfl⟩ := h
  exact ⟨fun i => if i = 3 then v else u i, by kernel_rfl⟩
/-- what each operation of the region TC leaves -/
def vsTC (s s1 s2 s6 : ByteArray) (k x y : Int) : List (Option (Tmp × Value)) :=
  [some (9, .string s), some (10, .string s1), some (11, .int .i64 k), some (12, .string s), some (13, .string s2), some (14, .int .i64 x), some (15, .string s), some (16, .string s6), some (17, .int .i64 y), some (18, .agg (ra k x y)), none, none]
/-- the frame while the region TC runs -/
def BaseTC (s : ByteArray) (B : Nat) (a : Act) : Prop := ∃ u : Nat → Value, a = ⟨#[.string s, u 1, .pointer (some ⟨B, 0, none⟩), u 3, u 4, u 5, u 6, u 7, u 8, u 9, u 10, u 11, u 12, u 13, u 14, u 15, u 16, u 17, u 18, u 19, u 20, u 21, u 22, u 23], []⟩
theorem BaseTC.of {s : ByteArray} {B : Nat} (arr : Array Value) (h : arr = #[.string s, arr.getD 1 undef, .pointer (some ⟨B, 0, none⟩), arr.getD 3 undef, arr.getD 4 undef, arr.getD 5 undef, arr.getD 6 undef, arr.getD 7 undef, arr.getD 8 undef, arr.getD 9 undef, arr.getD 10 undef, arr.getD 11 undef, arr.getD 12 undef, arr.getD 13 undef, arr.getD 14 undef, arr.getD 15 undef, arr.getD 16 undef, arr.getD 17 undef, arr.getD 18 undef, arr.getD 19 undef, arr.getD 20 undef, arr.getD 21 undef, arr.getD 22 undef, arr.getD 23 undef]) : BaseTC s B ⟨arr, []⟩ := ⟨fun i => arr.getD i undef, by rw [← h]⟩
theorem BaseTC.put9 {s : ByteArray} {B : Nat} (a : Act) (v : Value) (h : BaseTC s B a) : BaseTC s B (a.put (some 9) v) := by
  obtain ⟨u, rfl⟩ := h
  exact ⟨fun i => if i = 9 then v else u i, by kernel_rfl⟩
theorem BaseTC.put10 {s : ByteArray} {B : Nat} (a : Act) (v : Value) (h : BaseTC s B a) : BaseTC s B (a.put (some 10) v) := by
  obtain ⟨u, rfl⟩ := h
  exact ⟨fun i => if i = 10 then v else u i, by kernel_rfl⟩
theorem BaseTC.put11 {s : ByteArray} {B : Nat} (a : Act) (v : Value) (h : BaseTC s B a) : BaseTC s B (a.put (some 11) v) := by
  obtain ⟨u, rfl⟩ := h
  exact ⟨fun i => if i = 11 then v else u i, by kernel_rfl⟩
theorem BaseTC.put12 {s : ByteArray} {B : Nat} (a : Act) (v : Value) (h : BaseTC s B a) : BaseTC s B (a.put (some 12) v) := by
  obtain ⟨u, rfl⟩ := h
  exact ⟨fun i => if i = 12 then v else u i, by kernel_rfl⟩
theorem BaseTC.put13 {s : ByteArray} {B : Nat} (a : Act) (v : Value) (h : BaseTC s B a) : BaseTC s B (a.put (some 13) v) := by
  obtain ⟨u, rfl⟩ := h
  exact ⟨fun i => if i = 13 then v else u i, by kernel_rfl⟩
theorem BaseTC.put14 {s : ByteArray} {B : Nat} (a : Act) (v : Value) (h : BaseTC s B a) : BaseTC s B (a.put (some 14) v) := by
  obtain ⟨u, rfl⟩ := h
  exact ⟨fun i => if i = 14 then v else u i, by kernel_rfl⟩
theorem BaseTC.put15 {s : ByteArray} {B : Nat} (a : Act) (v : Value) (h : BaseTC s B a) : BaseTC s B (a.put (some 15) v) := by
  obtain ⟨u, rfl⟩ := h
  exact ⟨fun i => if i = 15 then v else u i, by kernel_rfl⟩
theorem BaseTC.put16 {s : ByteArray} {B : Nat} (a : Act) (v : Value) (h : BaseTC s B a) : BaseTC s B (a.put (some 16) v) := by
  obtain ⟨u, rfl⟩ := h
  exact ⟨fun i => if i = 16 then v else u i, by kernel_rfl⟩
theorem BaseTC.put17 {s : ByteArray} {B : Nat} (a : Act) (v : Value) (h : BaseTC s B a) : BaseTC s B (a.put (some 17) v) := by
  obtain ⟨u, rfl⟩ := h
  exact ⟨fun i => if i = 17 then v else u i, by kernel_rfl⟩
theorem BaseTC.put18 {s : ByteArray} {B : Nat} (a : Act) (v : Value) (h : BaseTC s B a) : BaseTC s B (a.put (some 18) v) := by
  obtain ⟨u, rfl⟩ := h
  exact ⟨fun i => if i = 18 then v else u i, by kernel_rfl⟩
theorem BaseTC.put4 {s : ByteArray} {B : Nat} (a : Act) (v : Value) (h : BaseTC s B a) : BaseTC s B (a.put (some 4) v) := by
  obtain ⟨u, rfl⟩ := h
  exact ⟨fun i => if i = 4 then v else u i, by kernel_rfl⟩

set_option maxHeartbeats 1000000 in
theorem rec_put_yes (k a b : Int) (w : World) (hm : MayR k a b) : Calls Tryd.prog 29 #[.agg (ra k a b)] w fun r w' => r = .returned (.tuple #[.string (recS k a b), .int .i64 0]) ∧ Below w.heap.size w w' := by
  have HB : Hid (mayR k a b = true) := (mayR_iff k a b).2 hm
  have HN := Lib.hid (may_in hm)
  clear hm
  go_enter Tryd.func29, Tryd.ntmps29
  go_wp2_with (refine wpList_load_row rfl 32 (.tmp 1) rfl w.heap.size rfl 32 (ra k a b) (0, 0) _ (Blk.new w (ra k a b) 32) Tryd.underlying32 rfl size_rec ?_)
  refine (rec_may k a b _).mono ?_
  rintro r w1 ⟨rfl, hb1⟩
  have HK1 : Hid (CR w.heap.size k a b w w1) := ⟨(Blk.new w (ra k a b) 32).after hb1, ((Below.refl _ _).alloc (Nat.le_refl _) _).trans (hb1.mono (by simp))⟩
  rw [HB.out]
  clear hb1 HB
  go_wp2_with fail
  rename_i K0 hK0
  refine wp_region_list3 (SV (vsPC w.heap.size k a b) []) (BasePC w.heap.size) (CR w.heap.size k a b w) (Goes) (RV (vsPC w.heap.size k a b) (fun _ _ _ => False)) rfl (by kernel_rfl) (RV.ext no_specialR) ?_ (HK1.out.call (Below.refl _ _).drew) (BasePC.of _ (by kernel_rfl)) ?_ ?_
  · exact ⟨BasePC.put7, BasePC.put8, BasePC.put9, BasePC.put10, BasePC.put11, BasePC.put12, BasePC.put13, BasePC.put14, BasePC.put15, BasePC.put16, BasePC.put17, BasePC.put2, BasePC.put3, trivial⟩
  · refine ⟨?_, ?_, ?_, ?_, ?_, ?_, ?_, ?_, ?_, ?_, ?_, ?_, ?_, trivial⟩
    all_goals
      intro a w' hC hB hR
      obtain ⟨u, rfl⟩ := hB
      have HC := Lib.hid hC
      clear hC
      clear hK0
    · clear hR
      refine if_yes (by kernel_rfl) ?_
      unfold Oper.wp
      go_simp
      exact ⟨.pointer (some ⟨w.heap.size, 0, none⟩), rfl, HC.out, Below.refl _ _, rfl⟩
    · have h7 : u 7 = .pointer (some ⟨w.heap.size, 0, none⟩) := hR ⟨0, .data⟩ (by simp) rfl
      have c0 : w'.cell? ⟨w.heap.size, 0, none⟩ = some (.int .i64 k) := HC.out.1.cell 0
      clear hR
      simp only [h7]
      clear h7
      refine if_yes (by kernel_rfl) ?_
      unfold Oper.wp
      go_simp
      exact ⟨.int .i64 k, rfl, HC.out, Below.refl _ _, rfl⟩
    · have h8 : u 8 = .int .i64 k := hR ⟨1, .data⟩ (by simp) rfl
      clear hR
      simp only [h8]
      clear h8
      refine if_yes (by kernel_rfl) ?_
      unfold Oper.wp
      go_simp
      refine (rec_put1 k 1 _ (by decide) (by decide) HN.out.1.1 HN.out.1.2.1 HN.out.1.2.2).mono ?_
      rintro r w2 ⟨rfl, hb2⟩
      exact ⟨.string (leS k 1), rfl, HC.out.call hb2, hb2, rfl⟩
    · clear hR
      refine if_yes (by kernel_rfl) ?_
      unfold Oper.wp
      go_simp
      exact ⟨.pointer (some ⟨w.heap.size, 1, none⟩), rfl, HC.out, Below.refl _ _, rfl⟩
    · have h10 : u 10 = .pointer (some ⟨w.heap.size, 1, none⟩) := hR ⟨3, .data⟩ (by simp) rfl
      have c1 : w'.cell? ⟨w.heap.size, 1, none⟩ = some (.int .i64 a) := HC.out.1.cell 1
      clear hR
      simp only [h10]
      clear h10
      refine if_yes (by kernel_rfl) ?_
      unfold Oper.wp
      go_simp
      exact ⟨.int .i64 a, rfl, HC.out, Below.refl _ _, rfl⟩
    · have h11 : u 11 = .int .i64 a := hR ⟨4, .data⟩ (by simp) rfl
      clear hR
      simp only [h11]
      clear h11
      refine if_yes (by kernel_rfl) ?_
      unfold Oper.wp
      go_simp
      refine (rec_put1 a 2 _ (by decide) (by decide) HN.out.2.1.1 HN.out.2.1.2.1 HN.out.2.1.2.2).mono ?_
      rintro r w2 ⟨rfl, hb2⟩
      exact ⟨.string (leS a 2), rfl, HC.out.call hb2, hb2, rfl⟩
    · have h9 : u 9 = .string (leS k 1) := hR ⟨2, .data⟩ (by simp) rfl
      have h12 : u 12 = .string (leS a 2) := hR ⟨5, .data⟩ (by simp) rfl
      have z1 := leS_size k 1
      have z2 := leS_size a 2
      clear hR
      simp only [h9, h12]
      clear h9 h12
      refine if_yes (by kernel_rfl) ?_
      unfold Oper.wp
      go_simp
      exact ⟨.string (leS k 1 ++ leS a 2), rfl, HC.out, Below.refl _ _, rfl⟩
    · clear hR
      refine if_yes (by kernel_rfl) ?_
      unfold Oper.wp
      go_simp
      exact ⟨.pointer (some ⟨w.heap.size, 2, none⟩), rfl, HC.out, Below.refl _ _, rfl⟩
    · have h14 : u 14 = .pointer (some ⟨w.heap.size, 2, none⟩) := hR ⟨7, .data⟩ (by simp) rfl
      have c2 : w'.cell? ⟨w.heap.size, 2, none⟩ = some (.int .i64 b) := HC.out.1.cell 2
      clear hR
      simp only [h14]
      clear h14
      refine if_yes (by kernel_rfl) ?_
      unfold Oper.wp
      go_simp
      exact ⟨.int .i64 b, rfl, HC.out, Below.refl _ _, rfl⟩
    · have h15 : u 15 = .int .i64 b := hR ⟨8, .data⟩ (by simp) rfl
      clear hR
      simp only [h15]
      clear h15
      refine if_yes (by kernel_rfl) ?_
      unfold Oper.wp
      go_simp
      refine (rec_put1 b 6 _ (by decide) (by decide) HN.out.2.2.1 HN.out.2.2.2.1 HN.out.2.2.2.2).mono ?_
      rintro r w2 ⟨rfl, hb2⟩
      exact ⟨.string (leS b 6), rfl, HC.out.call hb2, hb2, rfl⟩
    · have h13 : u 13 = .string (leS k 1 ++ leS a 2) := hR ⟨6, .data⟩ (by simp) rfl
      have h16 : u 16 = .string (leS b 6) := hR ⟨9, .data⟩ (by simp) rfl
      have z6 := leS_size b 6
      have z3 : (leS k 1 ++ leS a 2).size = 3 := by rw [ByteArray.size_append, leS_size, leS_size]
      clear hR
      simp only [h13, h16]
      clear h13 h16
      refine if_yes (by kernel_rfl) ?_
      unfold Oper.wp
      go_simp
      exact ⟨.string ((leS k 1 ++ leS a 2) ++ leS b 6), rfl, HC.out, Below.refl _ _, rfl⟩
    · have h17 : u 17 = .string ((leS k 1 ++ leS a 2) ++ leS b 6) := hR ⟨10, .data⟩ (by simp) rfl
      clear hR
      simp only [h17]
      clear h17
      refine if_yes (by kernel_rfl) ?_
      unfold Oper.wp
      go_simp
      exact ⟨.string ((leS k 1 ++ leS a 2) ++ leS b 6), rfl, HC.out, Below.refl _ _, rfl⟩
    · clear hR
      refine if_yes (by kernel_rfl) ?_
      unfold Oper.wp
      go_simp
      exact ⟨.int .i64 0, rfl, HC.out, Below.refl _ _, rfl⟩
  · intro a1 w' hC hB hR
    have h2 : a1.tmps.getD 2 undef = .string ((leS k 1 ++ leS a 2) ++ leS b 6) := hR 11 (by decide)
    have h3 : a1.tmps.getD 3 undef = .int .i64 0 := hR 12 (by decide)
    clear hR
    have HB5 := Lib.hid hC.2
    clear hC
    obtain ⟨u, rfl⟩ := hB
    have h2 : u 2 = .string ((leS k 1 ++ leS a 2) ++ leS b 6) := h2
    have h3 : u 3 = .int .i64 0 := h3
    simp only [h2, h3]
    clear h2 h3
    go_wp2_with fail
    go_ret2
    exact ⟨rfl, HB5.out⟩

theorem rec_put_no (k a b : Int) (w : World) (hm : ¬ MayR k a b) : Calls Tryd.prog 29 #[.agg (ra k a b)] w fun r w' => r = .returned (.tuple #[.string ByteArray.empty, .int .i64 110]) ∧ Below w.heap.size w w' := by
  have HB : Hid (mayR k a b = false) := by rw [← Bool.not_eq_true, mayR_iff]; exact hm
  clear hm
  go_enter Tryd.func29, Tryd.ntmps29
  go_wp2_with (refine wpList_load_row rfl 32 (.tmp 1) rfl w.heap.size rfl 32 (ra k a b) (0, 0) _ (Blk.new w (ra k a b) 32) Tryd.underlying32 rfl size_rec ?_)
  refine (rec_may k a b _).mono ?_
  rintro r w1 ⟨rfl, hb1⟩
  have HK1 := Lib.hid (((Below.refl w.heap.size w).alloc (Nat.le_refl _) (.cells (ra k a b) 32)).trans (hb1.mono (by simp)))
  rw [HB.out]
  clear hb1
  go_wp2_with fail
  go_ret2
  exact ⟨rfl, HK1.out⟩

theorem rec_put (k a b : Int) (w : World) : Calls Tryd.prog 29 #[.agg (ra k a b)] w (PutP k a b w) := by
  unfold PutP putRT putRE
  by_cases h : MayR k a b
  · rw [if_pos h, if_pos h]; exact rec_put_yes k a b w h
  · rw [if_neg h, if_neg h]; exact rec_put_no k a b w h

theorem rec_take_size (s : ByteArray) (w : World) (h : s.size ≠ 9) (hm : s.size ≤ maxLen) :
    Calls Tryd.prog 25 #[.string s] w fun r w' => r = .returned (.tuple #[.agg (ra 0 0 0), .int .i64 3]) ∧ Below w.heap.size w w' := by
  have hm2 : (s.size : Int) ≤ 9223372036854775807 := by unfold maxLen at hm; omega
  have h2 : ((s.size : Int) == 9) = false := by simp; omega
  have hR := fun cs => (Blk.new w (ra 0 0 0) 32).put cs
  clear hm
  go_enter Tryd.func25, Tryd.ntmps25
  go_wp2_with (refine wpList_store_row rfl 32 (.tmp 2) (.tmp 8) rfl w.heap.size (ra 0 0 0) rfl rfl 32 (ra 0 0 0) (Blk.new w (ra 0 0 0) 32) size_rec rfl (ra_one _ _ _) ?_)
  exact bodyPost_ret (results_cell_tmp rfl _ _ w.heap.size 32 (ra 0 0 0) _ rfl (hR _) Tryd.underlying32 rfl size_rec) rfl ⟨rfl, below_put (Nat.le_refl _) _ ((Below.refl _ _).alloc (Nat.le_refl _) _)⟩

set_option maxHeartbeats 1000000 in
theorem rec_take_nine (s : ByteArray) (w : World) (h : s.size = 9) :
    Calls Tryd.prog 25 #[.string s] w fun r w' => r = .returned (if mayR (kR s) (aR s) (bR s) then .tuple #[.agg (ra (kR s) (aR s) (bR s)), .int .i64 0] else .tuple #[.agg (ra 0 0 0), .int .i64 3]) ∧ Below w.heap.size w w' := by
  have hs : (s.size : Int) = 9 := by omega
  have hs2 : ((s.size : Int) == 9) = true := by rw [hs]; rfl
  obtain ⟨s1, e1⟩ : ∃ t, s.extract 0 1 = t := ⟨_, rfl⟩
  have H1 : Hid (s1.size = 1) := by show s1.size = 1; rw [← e1, ByteArray.size_extract]; omega
  obtain ⟨s2, e2⟩ : ∃ t, s.extract 1 3 = t := ⟨_, rfl⟩
  obtain ⟨s6, e6⟩ : ∃ t, s.extract 3 9 = t := ⟨_, rfl⟩
  have H2 : Hid (s2.size = 2) := by show s2.size = 2; rw [← e2, ByteArray.size_extract]; omega
  have H6 : Hid (s6.size = 6) := by show s6.size = 6; rw [← e6, ByteArray.size_extract]; omega
  have HE1 := Lib.hid e1; have HE2 := Lib.hid e2; have HE6 : Hid (s.extract 3 9 = s6) := e6
  rw [show kR s = numS s1 by unfold kR; rw [e1], show aR s = numS s2 by unfold aR; rw [e2], show bR s = numS s6 by unfold bR; rw [e6]]
  obtain ⟨k, hk⟩ : ∃ k, numS s1 = k := ⟨_, rfl⟩
  obtain ⟨x, hx⟩ : ∃ x, numS s2 = x := ⟨_, rfl⟩
  obtain ⟨y, hy⟩ : ∃ y, numS s6 = y := ⟨_, rfl⟩
  rw [hk, hx, hy]
  obtain ⟨m, hm⟩ : ∃ m, mayR k x y = m := ⟨_, rfl⟩
  rw [hm]
  have HK := Lib.hid hk; have HX := Lib.hid hx; have HY := Lib.hid hy; have HM := Lib.hid hm
  have HS := Lib.hid hs
  clear hk hx hy hm e1 e2 e6
  go_enter Tryd.func25, Tryd.ntmps25
  go_wp2_with fail
  rename_i K0 hK0
  refine wp_region_list3 (SV (vsTC s s1 s2 s6 k x y) [4]) (BaseTC s w.heap.size) (CRT w) (TR3 w.heap.size (ra k x y)) (RV (vsTC s s1 s2 s6 k x y) (SpR w.heap.size (ra k x y))) rfl (by kernel_rfl) (RV.ext SpR.ext) ?_ (⟨(Blk.new w (ra 0 0 0) 32).drew, ((Below.refl _ _).alloc (Nat.le_refl _) _).drew⟩) (BaseTC.of _ (by kernel_rfl)) ?_ ?_
  · exact ⟨BaseTC.put9, BaseTC.put10, BaseTC.put11, BaseTC.put12, BaseTC.put13, BaseTC.put14, BaseTC.put15, BaseTC.put16, BaseTC.put17, BaseTC.put18, BaseTC.put4, fun a v h => h, trivial⟩
  · refine ⟨?_, ?_, ?_, ?_, ?_, ?_, ?_, ?_, ?_, ?_, ?_, ?_, trivial⟩
    all_goals
      intro a w' hC hB hR
      obtain ⟨u, rfl⟩ := hB
      have hlt : w.heap.size < w'.heap.size := hC.1.lt
      have HC := Lib.hid hC
      clear hC
      clear hK0
    · clear hR
      refine if_yes (by kernel_rfl) ?_
      unfold Oper.wp
      go_simp
      exact ⟨.string s, rfl, HC.out, TR3.of (Below.refl _ _) hlt, rfl⟩
    · have h9 : u 9 = .string s := hR ⟨0, .data⟩ (by simp) rfl
      have hsz := HS.out
      have hx := HE1.out
      clear hR
      simp only [h9]
      clear h9
      refine if_yes (by kernel_rfl) ?_
      unfold Oper.wp
      go_simp
      exact ⟨.string s1, rfl, HC.out, TR3.of (Below.refl _ _) hlt, rfl⟩
    · have h10 : u 10 = .string s1 := hR ⟨1, .data⟩ (by simp) rfl
      clear hR
      simp only [h10]
      clear h10
      refine if_yes (by kernel_rfl) ?_
      unfold Oper.wp
      go_simp
      refine (rec_get s1 _ (by rw [H1.out]; decide) (by rw [H1.out]; decide)).mono ?_
      rintro r w2 ⟨rfl, rfl⟩
      exact ⟨_, rfl, HC.out, TR3.of (Below.refl _ _) hlt, congrArg (Value.int .i64) HK.out⟩
    · clear hR
      refine if_yes (by kernel_rfl) ?_
      unfold Oper.wp
      go_simp
      exact ⟨.string s, rfl, HC.out, TR3.of (Below.refl _ _) hlt, rfl⟩
    · have h12 : u 12 = .string s := hR ⟨3, .data⟩ (by simp) rfl
      have hsz := HS.out
      have hx := HE2.out
      clear hR
      simp only [h12]
      clear h12
      refine if_yes (by kernel_rfl) ?_
      unfold Oper.wp
      go_simp
      exact ⟨.string s2, rfl, HC.out, TR3.of (Below.refl _ _) hlt, rfl⟩
    · have h13 : u 13 = .string s2 := hR ⟨4, .data⟩ (by simp) rfl
      clear hR
      simp only [h13]
      clear h13
      refine if_yes (by kernel_rfl) ?_
      unfold Oper.wp
      go_simp
      refine (rec_get s2 _ (by rw [H2.out]; decide) (by rw [H2.out]; decide)).mono ?_
      rintro r w2 ⟨rfl, rfl⟩
      exact ⟨_, rfl, HC.out, TR3.of (Below.refl _ _) hlt, congrArg (Value.int .i64) HX.out⟩
    · clear hR
      refine if_yes (by kernel_rfl) ?_
      unfold Oper.wp
      go_simp
      exact ⟨.string s, rfl, HC.out, TR3.of (Below.refl _ _) hlt, rfl⟩
    · have h15 : u 15 = .string s := hR ⟨6, .data⟩ (by simp) rfl
      have hsz := HS.out
      have hx := HE6.out
      clear hR
      simp only [h15]
      clear h15
      refine if_yes (by kernel_rfl) ?_
      unfold Oper.wp
      go_simp
      exact ⟨.string s6, rfl, HC.out, TR3.of (Below.refl _ _) hlt, rfl⟩
    · have h16 : u 16 = .string s6 := hR ⟨7, .data⟩ (by simp) rfl
      clear hR
      simp only [h16]
      clear h16
      refine if_yes (by kernel_rfl) ?_
      unfold Oper.wp
      go_simp
      refine (rec_get s6 _ (by rw [H6.out]; decide) (by rw [H6.out]; decide)).mono ?_
      rintro r w2 ⟨rfl, rfl⟩
      exact ⟨_, rfl, HC.out, TR3.of (Below.refl _ _) hlt, congrArg (Value.int .i64) HY.out⟩
    · have h11 : u 11 = .int .i64 k := hR ⟨2, .data⟩ (by simp) rfl
      have h14 : u 14 = .int .i64 x := hR ⟨5, .data⟩ (by simp) rfl
      have h17 : u 17 = .int .i64 y := hR ⟨8, .data⟩ (by simp) rfl
      clear hR
      simp only [h11, h14, h17]
      clear h11 h14 h17
      refine if_yes (by kernel_rfl) ?_
      unfold Oper.wp
      go_simp
      exact ⟨.agg (ra k x y), rfl, HC.out, TR3.of (Below.refl _ _) hlt, rfl⟩
    · clear hR
      refine if_yes (by kernel_rfl) ?_
      unfold Oper.wp
      go_simp
      exact ⟨_, rfl, ⟨HC.out.1.alloc _, HC.out.2.alloc (Nat.le_of_lt hlt) _⟩, TR3.of ((Below.refl _ _).alloc (Nat.le_refl _) _) hlt, ⟨_, _, hlt, rfl, Blk.new _ _ _, rfl, fun h => by cases h⟩⟩
    · have h18 : u 18 = .agg (ra k x y) := hR ⟨9, .data⟩ (by simp) rfl
      obtain ⟨g, cs, hg, hp, hb, hcs, _⟩ := hR ⟨10, .data⟩ (by simp) rfl
      have hp : u 4 = .pointer (some ⟨g, 0, none⟩) := hp
      clear hR
      simp only [h18]
      clear h18
      refine if_yes (by kernel_rfl) ?_
      simp only [hp]
      exact wp_store_row 32 (.tmp 4) (.tmp 18) rfl g (ra k x y) rfl rfl 32 cs hb size_rec hcs (ra_one _ _ _) ⟨undef, rfl, ⟨HC.out.1.put_other (by omega) _, below_put (by omega) _ HC.out.2⟩, TR3.store hg hb rfl, ⟨g, _, hg, rfl, hb.put _, rfl, fun _ => rfl⟩⟩
  · intro a w' hC hB hR
    obtain ⟨g, cs, hg, hp, hb, hcs, he⟩ := hR 11 (by decide)
    clear hR
    obtain rfl := he rfl
    obtain ⟨u, rfl⟩ := hB
    have hp : u 4 = .pointer (some ⟨g, 0, none⟩) := hp
    simp only [hp]
    have HC := Lib.hid hC
    have HB := Lib.hid hb
    clear hC hb hcs he hp H1 H2 H6 HE1 HE2 HE6 HK HX HY HS
    go_wp2_with (refine wpList_load_row rfl 32 (.tmp 4) rfl g rfl 32 (ra k x y) (0, 0) _ HB.out Tryd.underlying32 rfl size_rec ?_)
    refine (rec_may _ _ _ _).mono ?_
    rintro r w5 ⟨rfl, hb5⟩
    rw [HM.out]
    have HR5 := Lib.hid (HC.out.1.after hb5)
    have HB5 := Lib.hid (HB.out.after hb5)
    have HL5 := Lib.hid (HC.out.2.trans (hb5.mono (by have := HC.out.2.size; exact this)))
    clear hb5 HM
    cases m
    · go_wp2_with (refine wpList_store_row rfl 32 (.tmp 2) (.tmp 22) rfl w.heap.size (ra 0 0 0) rfl rfl 32 (ra 0 0 0) HR5.out size_rec rfl (ra_one _ _ _) ?_)
      exact bodyPost_ret (results_cell_tmp rfl _ _ w.heap.size 32 (ra 0 0 0) _ rfl (HR5.out.put _) Tryd.underlying32 rfl size_rec) rfl ⟨rfl, below_put (Nat.le_refl _) _ HL5.out⟩
    · go_wp2_with (first
        | (refine wpList_load_row rfl 32 (.tmp 4) rfl g rfl 32 (ra k x y) (0, 0) _ HB5.out Tryd.underlying32 rfl size_rec ?_)
        | (refine wpList_store_row rfl 32 (.tmp 2) (.tmp 23) rfl w.heap.size (ra k x y) rfl rfl 32 (ra 0 0 0) HR5.out size_rec rfl (ra_one _ _ _) ?_))
      exact bodyPost_ret (results_cell_tmp rfl _ _ w.heap.size 32 (ra k x y) _ rfl (HR5.out.put _) Tryd.underlying32 rfl size_rec) rfl ⟨rfl, below_put (Nat.le_refl _) _ HL5.out⟩

theorem rec_take (s : ByteArray) (w : World) (hm : s.size ≤ maxLen) : Calls Tryd.prog 25 #[.string s] w (TakeP s w) := by
  unfold TakeP takeA takeE
  by_cases hz : s.size = 9
  · have h := rec_take_nine s w hz
    by_cases hm2 : MayR (kR s) (aR s) (bR s)
    · rw [if_pos ⟨hz, hm2⟩, if_pos ⟨hz, hm2⟩]
      rwa [if_pos ((mayR_iff _ _ _).2 hm2)] at h
    · rw [if_neg (fun h => hm2 h.2), if_neg (fun h => hm2 h.2)]
      rwa [if_neg (fun h => hm2 ((mayR_iff _ _ _).1 h))] at h
  · rw [if_neg (fun h => hz h.1), if_neg (fun h => hz h.1)]
    exact rec_take_size s w hz hm

end Go.Proofs.YtklbmlnghindjaaDoor
