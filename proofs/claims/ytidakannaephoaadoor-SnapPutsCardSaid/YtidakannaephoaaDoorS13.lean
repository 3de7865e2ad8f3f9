/- Texts of one claim, merged: SnL3, SnL4. -/
import Derived.Test.YtidakannaephoaaDoorS12
import Derived.Test.YtidakannaephoaaDoorS9

/- The law SnapOne. -/
namespace Go.Proofs.YtidakannaephoaaDoor
set_option maxRecDepth 100000
open Go.RowKit

/-- the boxes of a law: the geometry, what is durable, twice -/
def LW3 (w0 : World) (G A A2 : Array Value) (w : World) : Prop :=
  (w0.heap.size + 3 ≤ w.heap.size ∧ Blk w w0.heap.size G 23 ∧ Blk w (w0.heap.size + 1) A 26 ∧ Blk w (w0.heap.size + 2) A2 26) ∧ Below w0.heap.size w0 w
theorem LW3.new (w0 : World) (G A A2 : Array Value) : LW3 w0 G A A2 (((w0.alloc (.cells G 23)).alloc (.cells A 26)).alloc (.cells A2 26)) := by
  have b1 : Blk ((w0.alloc (.cells G 23)).alloc (.cells A 26)) (w0.heap.size + 1) A 26 := by
    have h := Blk.new (w0.alloc (.cells G 23)) A 26
    rwa [World.size_alloc] at h
  have b2 : Blk (((w0.alloc (.cells G 23)).alloc (.cells A 26)).alloc (.cells A2 26)) (w0.heap.size + 2) A2 26 := by
    have h := Blk.new ((w0.alloc (.cells G 23)).alloc (.cells A 26)) A2 26
    rwa [World.size_alloc, World.size_alloc] at h
  exact ⟨⟨by simp, ((Blk.new _ _ _).alloc _).alloc _, b1.alloc _, b2⟩, (((Below.refl _ _).alloc (Nat.le_refl _) _).alloc (by simp) _).alloc (by simp; omega) _⟩
theorem LW3.call {w0 w w' : World} {G A A2 : Array Value} (h : LW3 w0 G A A2 w) (hb : Below w.heap.size w w') : LW3 w0 G A A2 w' :=
  ⟨⟨Nat.le_trans h.1.1 hb.size, h.1.2.1.after hb, h.1.2.2.1.after hb, h.1.2.2.2.after hb⟩, h.2.trans (hb.mono h.2.size)⟩

/-- what each operation of the region SO leaves -/
def vsSO (va vb : Value) (A A2 : Array Value) (q : Bool) : List (Option (Tmp × Value)) :=
  [some (48, va), some (49, vb), some (50, .bool q), some (51, .agg A), some (52, .agg A2), some (53, .bool q), some (54, .bool true), some (6, .bool true)]
/-- the frame while the region SO runs -/
def BaseSO (B : Nat) (va vb : Value) (a : Act) : Prop := ∃ u : Nat → Value, a = ⟨#[u 0, u 1, u 2, .pointer (some ⟨B, 0, none⟩), .pointer (some ⟨B + 1, 0, none⟩), .pointer (some ⟨B + 2, 0, none⟩), u 6, va, u 8, vb, u 10, u 11, u 12, u 13, u 14, u 15, u 16, u 17, u 18, u 19, u 20, u 21, u 22, u 23, u 24, u 25, u 26, u 27, u 28, u 29, u 30, u 31, u 32, u 33, u 34, u 35, u 36, u 37, u 38, u 39, u 40, u 41, u 42, u 43, u 44, u 45, u 46, u 47, u 48, u 49, u 50, u 51, u 52, u 53, u 54], []⟩
theorem BaseSO.of {B : Nat} {va vb : Value} (arr : Array Value) (h : arr = #[arr.getD 0 undef, arr.getD 1 undef, arr.getD 2 undef, .pointer (some ⟨B, 0, none⟩), .pointer (some ⟨B + 1, 0, none⟩), .pointer (some ⟨B + 2, 0, none⟩), arr.getD 6 undef, va, arr.getD 8 undef, vb, arr.getD 10 undef, arr.getD 11 undef, arr.getD 12 undef, arr.getD 13 undef, arr.getD 14 undef, arr.getD 15 undef, arr.getD 16 undef, arr.getD 17 undef, arr.getD 18 undef, arr.getD 19 undef, arr.getD 20 undef, arr.getD 21 undef, arr.getD 22 undef, arr.getD 23 undef, arr.getD 24 undef, arr.getD 25 undef, arr.getD 26 undef, arr.getD 27 undef, arr.getD 28 undef, arr.getD 29 undef, arr.getD 30 undef, arr.getD 31 undef, arr.getD 32 undef, arr.getD 33 undef, arr.getD 34 undef, arr.getD 35 undef, arr.getD 36 undef, arr.getD 37 undef, arr.getD 38 undef, arr.getD 39 undef, arr.getD 40 undef, arr.getD 41 undef, arr.getD 42 undef, arr.getD 43 undef, arr.getD 44 undef, arr.getD 45 undef, arr.getD 46 undef, arr.getD 47 undef, arr.getD 48 undef, arr.getD 49 undef, arr.getD 50 undef, arr.getD 51 undef, arr.getD 52 undef, arr.getD 53 undef, arr.getD 54 undef]) : BaseSO B va vb ⟨arr, []⟩ := ⟨fun i => arr.getD i undef, by rw [← h]⟩
theorem BaseSO.put48 {B : Nat} {va vb : Value} (a : Act) (v : Value) (h : BaseSO B va vb a) : BaseSO B va vb (a.put (some 48) v) := by
  obtain ⟨u, rfl⟩ := h
  exact ⟨fun i => if i = 48 then v else u i, by kernel_rfl⟩
theorem BaseSO.put49 {B : Nat} {va vb : Value} (a : Act) (v : Value) (h : BaseSO B va vb a) : BaseSO B va vb (a.put (some 49) v) := by
  obtain ⟨u, rfl⟩ := h
  exact ⟨fun i => if i = 49 then v else u i, by kernel_rfl⟩
theorem BaseSO.put50 {B : Nat} {va vb : Value} (a : Act) (v : Value) (h : BaseSO B va vb a) : BaseSO B va vb (a.put (some 50) v) := by
  obtain ⟨u, rfl⟩ := h
  exact ⟨fun i => if i = 50 then v else u i, by kernel_rfl⟩
theorem BaseSO.put51 {B : Nat} {va vb : Value} (a : Act) (v : Value) (h : BaseSO B va vb a) : BaseSO B va vb (a.put (some 51) v) := by
  obtain ⟨u, rfl⟩ := h
  exact ⟨fun i => if i = 51 then v else u i, by kernel_rfl⟩
theorem BaseSO.put52 {B : Nat} {va vb : Value} (a : Act) (v : Value) (h : BaseSO B va vb a) : BaseSO B va vb (a.put (some 52) v) := by
  obtain ⟨u, rfl⟩ := h
  exact ⟨fun i => if i = 52 then v else u i, by kernel_rfl⟩
theorem BaseSO.put53 {B : Nat} {va vb : Value} (a : Act) (v : Value) (h : BaseSO B va vb a) : BaseSO B va vb (a.put (some 53) v) := by
  obtain ⟨u, rfl⟩ := h
  exact ⟨fun i => if i = 53 then v else u i, by kernel_rfl⟩
theorem BaseSO.put54 {B : Nat} {va vb : Value} (a : Act) (v : Value) (h : BaseSO B va vb a) : BaseSO B va vb (a.put (some 54) v) := by
  obtain ⟨u, rfl⟩ := h
  exact ⟨fun i => if i = 54 then v else u i, by kernel_rfl⟩
theorem BaseSO.put6 {B : Nat} {va vb : Value} (a : Act) (v : Value) (h : BaseSO B va vb a) : BaseSO B va vb (a.put (some 6) v) := by
  obtain ⟨u, rfl⟩ := h
  exact ⟨fun i => if i = 6 then v else u i, by kernel_rfl⟩

set_option maxHeartbeats 4000000 in
theorem walk_SnapOne (b l y n s r : Int) (A : Array Value) (x : Sn) (A2 : Array Value) (z : Sn) (w : World) (hA : SnAt w A x) (hA2 : SnAt w A2 z) :
    Calls Tryd.prog 5 #[.agg (gv b l y n s r), .agg A, .agg A2] w fun e w' => e = .returned (.bool true) ∧ Below w.heap.size w w' := by
  obtain ⟨w2, hw2⟩ : ∃ w2, ((w.alloc (.cells (gv b l y n s r) 23)).alloc (.cells A 26)).alloc (.cells A2 26) = w2 := ⟨_, rfl⟩
  have HW2 : Hid (LW3 w (gv b l y n s r) A A2 w2) := by rw [← hw2]; exact LW3.new _ _ _ _
  have HSA : Hid ((Tryd.prog.info? 26).map (·.size) = some A.size) := by obtain ⟨_, _, _, _, rfl, _⟩ := hA; exact size_state
  have HSB : Hid ((Tryd.prog.info? 26).map (·.size) = some A2.size) := by obtain ⟨_, _, _, _, rfl, _⟩ := hA2; exact size_state
  have HA : Hid (∀ w', Below w.heap.size w w' → SnAt w' A x) := fun w' h => hA.below h
  have HA2 : Hid (∀ w', Below w.heap.size w w' → SnAt w' A2 z) := fun w' h => hA2.below h
  clear hA hA2
  go_enter Tryd.func5, Tryd.ntmps5
  go_wp2_with fail
  refine (sn_works _).mono ?_
  rintro e w3 ⟨rfl, hb3⟩
  have HW3 : Hid (LW3 w (gv b l y n s r) A A2 w3) := HW2.out.call hb3
  clear hb3 HW2 hw2
  have c3 : w3.cell? ⟨w.heap.size, 3, none⟩ = some (.int .i64 n) := HW3.out.1.2.1.cell 3
  by_cases hn : 300 < n
  · go_wp2_with fail
    go_ret
    exact ⟨rfl, HW3.out.2⟩
  · have hnb : decide (300 < n) = false := decide_eq_false hn
    go_wp2_with (first
      | (refine wpList_load_row rfl 23 (.tmp 3) rfl w.heap.size rfl 23 (gv b l y n s r) (0, 0) _ HW3.out.1.2.1 Tryd.underlying23 rfl size_geo ?_)
      | (refine wpList_load_row rfl 26 (.tmp 4) rfl (w.heap.size + 1) rfl 26 A (0, 0) _ HW3.out.1.2.2.1 Tryd.underlying26 rfl HSA.out ?_))
    refine (sn_putC w3 b l y n s r A x (HA.out _ HW3.out.2)).mono ?_
    rintro e w5 ⟨⟨va, rfl, hva⟩, hb5⟩
    have HW5 := Lib.hid (HW3.out.call hb5)
    have HVA : Hid (TsC w5 va (ptP b l y n s r x)) := TsC.own rfl hva
    clear hva hb5 c3 HW3
    obtain ⟨ec, hec⟩ : ∃ ec, ptE b l y n s r x = ec := ⟨_, rfl⟩
    have HEC := Lib.hid hec
    rw [hec]
    clear hec
    go_wp2_with (first
      | (refine wpList_load_row rfl 23 (.tmp 3) rfl w.heap.size rfl 23 (gv b l y n s r) (0, 0) _ HW5.out.1.2.1 Tryd.underlying23 rfl size_geo ?_)
      | (refine wpList_load_row rfl 26 (.tmp 5) rfl (w.heap.size + 2) rfl 26 A2 (0, 0) _ HW5.out.1.2.2.2 Tryd.underlying26 rfl HSB.out ?_))
    refine (sn_putC w5 b l y n s r A2 z (HA2.out _ HW5.out.2)).mono ?_
    rintro e w8 ⟨⟨vb, rfl, hvb⟩, hb8⟩
    have HW8 := Lib.hid (HW5.out.call hb8)
    have HVA8 := Lib.hid (HVA.out.below hb8)
    have HVB8 : Hid (TsC w8 vb (ptP b l y n s r z)) := TsC.own rfl hvb
    clear hvb hb8 HW5 HVA
    obtain ⟨fc, hfc⟩ : ∃ fc, ptE b l y n s r z = fc := ⟨_, rfl⟩
    have HFC := Lib.hid hfc
    rw [hfc]
    clear hfc
    have hF1 := ptE_fits b l y n s r x
    have hF2 := ptE_fits b l y n s r z
    rw [HEC.out] at hF1
    rw [HFC.out] at hF2
    clear HEC HFC
    have HFI : Hid (∀ w', LW3 w (gv b l y n s r) A A2 w' → Calls Tryd.prog 11 #[.agg (gv b l y n s r), .agg A] w' fun e w2 => e = .returned (.bool (fitsB b l y n s r x)) ∧ Below w'.heap.size w' w2) := fun w' h => sn_fits w' b l y n s r A x (HA.out _ h.2)
    have HFJ : Hid (∀ w', LW3 w (gv b l y n s r) A A2 w' → Calls Tryd.prog 11 #[.agg (gv b l y n s r), .agg A2] w' fun e w2 => e = .returned (.bool (fitsB b l y n s r z)) ∧ Below w'.heap.size w' w2) := fun w' h => sn_fits w' b l y n s r A2 z (HA2.out _ h.2)
    by_cases hboth : fitsB b l y n s r x = true ∧ fitsB b l y n s r z = true
    · obtain rfl : ec = 0 := by rcases hF1 with h | h; exact h.2; rw [hboth.1] at h; exact absurd h.1 (by decide)
      obtain rfl : fc = 0 := by rcases hF2 with h | h; exact h.2; rw [hboth.2] at h; exact absurd h.1 (by decide)
      obtain ⟨q, hq⟩ : ∃ q, decide (x = z) = q := ⟨_, rfl⟩
      have hsame := same_dec hboth.1 hboth.2
      have HST : Hid (∀ w', Below w8.heap.size w8 w' → Calls Tryd.prog 13 #[va, vb] w' fun e w2 => e = .returned (.bool q) ∧ Below w'.heap.size w' w2) := fun w' h => by
        rw [← hq, ← hsame]
        exact book_textsG w' va vb _ _ ⟨ptP_len x, ptP_len z⟩ (HVA8.out.below h).ts (HVB8.out.below h).ts
      have HSS : Hid (∀ w', Below w8.heap.size w8 w' → Calls Tryd.prog 14 #[.agg A, .agg A2] w' fun e w2 => e = .returned (.bool q) ∧ Below w'.heap.size w' w2) := fun w' h => by
        rw [← hq]
        exact book_state w' A A2 x z (HA.out _ (HW8.out.2.trans (h.mono HW8.out.2.size))) (HA2.out _ (HW8.out.2.trans (h.mono HW8.out.2.size)))
      clear hF1 hF2 hboth hq hsame HFI HFJ hn hnb
      go_wp2_with fail
      rename_i K0 hK0
      refine wp_region_list3 (SV (vsSO va vb A A2 q) []) (BaseSO w.heap.size va vb) (fun w' => LW3 w (gv b l y n s r) A A2 w' ∧ Below w8.heap.size w8 w') (Goes) (RV (vsSO va vb A A2 q) (fun _ _ _ => False)) rfl (by kernel_rfl) (RV.ext (no_specialL _)) ?_ (⟨HW8.out.call (Below.refl _ _).drew, (Below.refl _ _).drew⟩) (BaseSO.of _ (by kernel_rfl)) ?_ ?_
      · exact ⟨BaseSO.put48, BaseSO.put49, BaseSO.put50, BaseSO.put51, BaseSO.put52, BaseSO.put53, BaseSO.put54, BaseSO.put6, trivial⟩
      · refine ⟨?_, ?_, ?_, ?_, ?_, ?_, ?_, ?_, trivial⟩
        all_goals
          intro a w' hC hB hR
          obtain ⟨u, rfl⟩ := hB
          have HC := Lib.hid hC
          clear hC
          clear hK0
        · clear hR
          refine if_yes (by kernel_rfl) ?_
          unfold Oper.wp
          go_simp
          exact ⟨va, rfl, HC.out, Below.refl _ _, rfl⟩
        · clear hR
          refine if_yes (by kernel_rfl) ?_
          unfold Oper.wp
          go_simp
          exact ⟨vb, rfl, HC.out, Below.refl _ _, rfl⟩
        · have h48 : u 48 = va := hR ⟨0, .data⟩ (by simp) rfl
          have h49 : u 49 = vb := hR ⟨1, .data⟩ (by simp) rfl
          clear hR
          simp only [h48, h49]
          clear h48 h49
          refine if_yes (by kernel_rfl) ?_
          unfold Oper.wp
          go_simp
          refine (HST.out w' HC.out.2).mono ?_
          rintro e w2 ⟨rfl, hb2⟩
          exact ⟨.bool q, rfl, ⟨HC.out.1.call hb2, HC.out.2.trans (hb2.mono HC.out.2.size)⟩, hb2, rfl⟩
        · clear hR
          refine if_yes (by kernel_rfl) ?_
          exact wp_load_row 26 (.tmp 4) rfl (w.heap.size + 1) rfl 26 A (0, 0) _ HC.out.1.1.2.2.1 Tryd.underlying26 rfl HSA.out ⟨.agg A, rfl, HC.out, Below.refl _ _, rfl⟩
        · clear hR
          refine if_yes (by kernel_rfl) ?_
          exact wp_load_row 26 (.tmp 5) rfl (w.heap.size + 2) rfl 26 A2 (0, 0) _ HC.out.1.1.2.2.2 Tryd.underlying26 rfl HSB.out ⟨.agg A2, rfl, HC.out, Below.refl _ _, rfl⟩
        · have h51 : u 51 = .agg A := hR ⟨3, .data⟩ (by simp) rfl
          have h52 : u 52 = .agg A2 := hR ⟨4, .data⟩ (by simp) rfl
          clear hR
          simp only [h51, h52]
          clear h51 h52
          refine if_yes (by kernel_rfl) ?_
          unfold Oper.wp
          go_simp
          refine (HSS.out w' HC.out.2).mono ?_
          rintro e w2 ⟨rfl, hb2⟩
          exact ⟨.bool q, rfl, ⟨HC.out.1.call hb2, HC.out.2.trans (hb2.mono HC.out.2.size)⟩, hb2, rfl⟩
        · have h50 : u 50 = .bool q := hR ⟨2, .data⟩ (by simp) rfl
          have h53 : u 53 = .bool q := hR ⟨5, .data⟩ (by simp) rfl
          have hqq : (q == q) = true := by cases q <;> rfl
          clear hR
          simp only [h50, h53]
          clear h50 h53
          refine if_yes (by kernel_rfl) ?_
          unfold Oper.wp
          go_simp
          exact ⟨.bool true, rfl, HC.out, Below.refl _ _, rfl⟩
        · have h54 : u 54 = .bool true := hR ⟨6, .data⟩ (by simp) rfl
          clear hR
          simp only [h54]
          clear h54
          refine if_yes (by kernel_rfl) ?_
          unfold Oper.wp
          go_simp
          exact ⟨.bool true, rfl, HC.out, Below.refl _ _, rfl⟩
      · intro a w' hC hB hR
        have h6 : a.tmps.getD 6 undef = .bool true := hR 7 (by decide)
        clear hR
        obtain ⟨u, rfl⟩ := hB
        have h6 : u 6 = .bool true := h6
        simp only [h6]
        have HB9 : Hid (Below w.heap.size w w') := hC.1.2
        clear h6 hC
        go_wp2_with fail
        go_ret
        exact ⟨rfl, HB9.out⟩
    · obtain ⟨p, hp⟩ : ∃ p, fitsB b l y n s r x = p := ⟨_, rfl⟩
      obtain ⟨q, hq⟩ : ∃ q, fitsB b l y n s r z = q := ⟨_, rfl⟩
      rw [hp] at hF1 hboth
      rw [hq] at hF2 hboth
      simp only [hp] at HFI
      simp only [hq] at HFJ
      clear hp hq hn hnb
      cases p
      · obtain ⟨_, he1, he2, _⟩ : (false : Bool) = false ∧ (ec == 0) = false ∧ (ec != 0) = true ∧ _ := hF1.resolve_left (fun h => by cases h.1)
        clear hF1 hboth
        cases q
        · obtain ⟨_, hf1, hf2, _⟩ : (false : Bool) = false ∧ (fc == 0) = false ∧ (fc != 0) = true ∧ _ := hF2.resolve_left (fun h => by cases h.1)
          clear hF2
          go_wp2_with (first
            | (refine wpList_load_row rfl 23 (.tmp 3) rfl w.heap.size rfl 23 (gv b l y n s r) (0, 0) _ HW8.out.1.2.1 Tryd.underlying23 rfl size_geo ?_)
            | (refine wpList_load_row rfl 26 (.tmp 4) rfl (w.heap.size + 1) rfl 26 A (0, 0) _ HW8.out.1.2.2.1 Tryd.underlying26 rfl HSA.out ?_))
          refine (HFI.out _ HW8.out).mono ?_
          rintro e w9 ⟨rfl, hb9⟩
          have HW9 := Lib.hid (HW8.out.call hb9)
          clear hb9
          go_wp2_with (first
            | (refine wpList_load_row_if (by kernel_rfl) 23 (.tmp 3) rfl w.heap.size rfl 23 (gv b l y n s r) (0, 0) _ HW9.out.1.2.1 Tryd.underlying23 rfl size_geo ?_)
            | (refine wpList_load_row_if (by kernel_rfl) 26 (.tmp 5) rfl (w.heap.size + 2) rfl 26 A2 (0, 0) _ HW9.out.1.2.2.2 Tryd.underlying26 rfl HSB.out ?_))
          refine (HFJ.out _ HW9.out).mono ?_
          rintro e w10 ⟨rfl, hb10⟩
          have HW10 := Lib.hid (HW9.out.call hb10)
          clear hb10
          go_wp2_with fail
          go_ret
          exact ⟨rfl, HW10.out.2⟩
        · obtain rfl : fc = 0 := by rcases hF2 with h | h; exact h.2; exact absurd h.1 (by decide)
          clear hF2
          go_wp2_with (first
            | (refine wpList_load_row rfl 23 (.tmp 3) rfl w.heap.size rfl 23 (gv b l y n s r) (0, 0) _ HW8.out.1.2.1 Tryd.underlying23 rfl size_geo ?_)
            | (refine wpList_load_row rfl 26 (.tmp 4) rfl (w.heap.size + 1) rfl 26 A (0, 0) _ HW8.out.1.2.2.1 Tryd.underlying26 rfl HSA.out ?_))
          refine (HFI.out _ HW8.out).mono ?_
          rintro e w9 ⟨rfl, hb9⟩
          have HW9 := Lib.hid (HW8.out.call hb9)
          clear hb9
          go_wp2_with (first
            | (refine wpList_load_row_if (by kernel_rfl) 23 (.tmp 3) rfl w.heap.size rfl 23 (gv b l y n s r) (0, 0) _ HW9.out.1.2.1 Tryd.underlying23 rfl size_geo ?_)
            | (refine wpList_load_row_if (by kernel_rfl) 26 (.tmp 5) rfl (w.heap.size + 2) rfl 26 A2 (0, 0) _ HW9.out.1.2.2.2 Tryd.underlying26 rfl HSB.out ?_))
          refine (HFJ.out _ HW9.out).mono ?_
          rintro e w10 ⟨rfl, hb10⟩
          have HW10 := Lib.hid (HW9.out.call hb10)
          clear hb10
          go_wp2_with fail
          go_ret
          exact ⟨rfl, HW10.out.2⟩
      · obtain rfl : ec = 0 := by rcases hF1 with h | h; exact h.2; exact absurd h.1 (by decide)
        cases q
        · obtain ⟨_, hf1, hf2, _⟩ : (false : Bool) = false ∧ (fc == 0) = false ∧ (fc != 0) = true ∧ _ := hF2.resolve_left (fun h => by cases h.1)
          clear hF1 hF2 hboth
          go_wp2_with (first
            | (refine wpList_load_row rfl 23 (.tmp 3) rfl w.heap.size rfl 23 (gv b l y n s r) (0, 0) _ HW8.out.1.2.1 Tryd.underlying23 rfl size_geo ?_)
            | (refine wpList_load_row rfl 26 (.tmp 4) rfl (w.heap.size + 1) rfl 26 A (0, 0) _ HW8.out.1.2.2.1 Tryd.underlying26 rfl HSA.out ?_))
          refine (HFI.out _ HW8.out).mono ?_
          rintro e w9 ⟨rfl, hb9⟩
          have HW9 := Lib.hid (HW8.out.call hb9)
          clear hb9
          go_wp2_with (first
            | (refine wpList_load_row_if (by kernel_rfl) 23 (.tmp 3) rfl w.heap.size rfl 23 (gv b l y n s r) (0, 0) _ HW9.out.1.2.1 Tryd.underlying23 rfl size_geo ?_)
            | (refine wpList_load_row_if (by kernel_rfl) 26 (.tmp 5) rfl (w.heap.size + 2) rfl 26 A2 (0, 0) _ HW9.out.1.2.2.2 Tryd.underlying26 rfl HSB.out ?_))
          refine (HFJ.out _ HW9.out).mono ?_
          rintro e w10 ⟨rfl, hb10⟩
          have HW10 := Lib.hid (HW9.out.call hb10)
          clear hb10
          go_wp2_with fail
          go_ret
          exact ⟨rfl, HW10.out.2⟩
        · exact absurd ⟨rfl, rfl⟩ hboth

end Go.Proofs.YtidakannaephoaaDoor

/- The law SnapBack. -/
namespace Go.Proofs.YtidakannaephoaaDoor
set_option maxRecDepth 100000
open Go.RowKit

theorem TxAt.tsc {w : World} {oa : Option Addr} {cap : Nat} {ps : List ByteArray} (h : TxAt w oa ps) (hc : ps.length ≤ cap ∧ cap ≤ maxLen) : TsC w (.slice oa ps.length cap) ps := by
  refine ⟨oa, cap, rfl, hc, fun k hk => ?_⟩
  obtain ⟨g, o, ha, _, h1⟩ := h (by intro h0; rw [h0] at hk; exact absurd hk (Nat.not_lt_zero _))
  exact ⟨g, o, ha, h1 k hk⟩

set_option maxHeartbeats 8000000 in
theorem walk_SnapBack (b l y n s r : Int) (A : Array Value) (x : Sn) (oa : Option Addr) (cap : Nat) (ps : List ByteArray) (hw : (ps.length ≤ cap ∧ cap ≤ maxLen) ∧ ∀ p ∈ ps, p.size ≤ maxLen) (w : World) (hA : SnAt w A x) (hp : TxAt w oa ps) :
    Calls Tryd.prog 4 #[.agg (gv b l y n s r), .agg A, .slice oa ps.length cap] w fun e w' => e = .returned (.bool true) ∧ Below w.heap.size w w' := by
  obtain ⟨w2, hw2⟩ : ∃ w2, (w.alloc (.cells (gv b l y n s r) 23)).alloc (.cells A 26) = w2 := ⟨_, rfl⟩
  have HW2 : Hid (SnW w b l y n s r A w2) := by rw [← hw2]; exact SnW.new _ _ _ _ _ _ _ _
  have HSA : Hid ((Tryd.prog.info? 26).map (·.size) = some A.size) := by obtain ⟨_, _, _, _, rfl, _⟩ := hA; exact size_state
  have HA : Hid (∀ w', Below w.heap.size w w' → SnAt w' A x) := fun w' h => hA.below h
  have htc := TxAt.tsc hp hw.1
  obtain ⟨L, hL⟩ : ∃ L, ps.length = L := ⟨_, rfl⟩
  have HLE := Lib.hid hL
  rw [hL] at htc ⊢
  have HP : Hid (∀ w', Below w.heap.size w w' → TsC w' (.slice oa L cap) ps) := fun w' h => htc.below h
  clear hA hp hw hL htc
  go_enter Tryd.func4, Tryd.ntmps4
  go_wp2_with fail
  refine (sn_works _).mono ?_
  rintro e w3 ⟨rfl, hb3⟩
  have HW3 : Hid (SnW w b l y n s r A w3) := HW2.out.call hb3
  clear hb3 HW2 hw2
  have c3 : w3.cell? ⟨w.heap.size, 3, none⟩ = some (.int .i64 n) := HW3.out.geo.2.2
  by_cases hn : 300 < n
  · have hnb : decide (300 < n) = true := decide_eq_true hn
    go_wp2_with fail
    go_ret
    exact ⟨rfl, HW3.out.2⟩
  have hnb : decide (300 < n) = false := decide_eq_false hn
  by_cases hl : (100 : Int) < (L : Int)
  · have hlb : decide ((100 : Int) < (L : Int)) = true := decide_eq_true hl
    go_wp2_with fail
    go_ret
    exact ⟨rfl, HW3.out.2⟩
  have hlb : decide ((100 : Int) < (L : Int)) = false := decide_eq_false hl
  have HL : Hid (ps.length ≤ 1000000) := by show ps.length ≤ _; rw [HLE.out]; omega
  go_wp2_with (first
    | (refine wpList_load_row rfl 23 (.tmp 3) rfl w.heap.size rfl 23 (gv b l y n s r) (0, 0) _ HW3.out.1.2.1 Tryd.underlying23 rfl size_geo ?_)
    | (refine wpList_load_row rfl 26 (.tmp 4) rfl (w.heap.size + 1) rfl 26 A (0, 0) _ HW3.out.1.2.2 Tryd.underlying26 rfl HSA.out ?_))
  refine (sn_putC w3 b l y n s r A x (HA.out _ HW3.out.2)).mono ?_
  rintro e w5 ⟨⟨va, rfl, hva⟩, hb5⟩
  have HW5 := Lib.hid (HW3.out.call hb5)
  have htv : TsC w5 va (ptP b l y n s r x) := TsC.own rfl hva
  clear hva hb5 c3 HW3 hn hnb hl hlb HLE
  have hF1 := ptE_fits b l y n s r x
  obtain ⟨ec, hec⟩ : ∃ ec, ptE b l y n s r x = ec := ⟨_, rfl⟩
  rw [hec] at hF1 ⊢
  clear hec
  have HFI : Hid (∀ w', SnW w b l y n s r A w' → Calls Tryd.prog 11 #[.agg (gv b l y n s r), .agg A] w' fun e w2 => e = .returned (.bool (fitsB b l y n s r x)) ∧ Below w'.heap.size w' w2) := fun w' h => sn_fits w' b l y n s r A x (HA.out _ h.2)
  rcases hF1 with ⟨hq, rfl⟩ | ⟨hq, he1, he2, hpp⟩
  · obtain ⟨hk1, hk2⟩ := back_ok hq
    rw [hq] at HFI
    have HTK : Hid (Calls Tryd.prog 9 #[.agg (gv b l y n s r), va] w5 fun e w' => (∃ a c d f, e = .returned (.tuple #[.agg #[a, c, d, f], .int .i64 0]) ∧ FourR w' w5.heap.size [a, c, d, f] (listsN x)) ∧ Below w5.heap.size w5 w') := by
      refine (sn_take w5 b l y n s r va _ htv).mono ?_
      rintro e w' ⟨⟨a, c, d, f, rfl, hf⟩, hb⟩
      rw [hk1]
      rw [hk2] at hf
      exact ⟨⟨a, c, d, f, rfl, hf⟩, hb⟩
    clear hk1 hk2 hq htv
    have HFC := HFI
    go_wp2_with (first
      | (refine wpList_load_row rfl 23 (.tmp 3) rfl w.heap.size rfl 23 (gv b l y n s r) (0, 0) _ HW5.out.1.2.1 Tryd.underlying23 rfl size_geo ?_))
    refine HTK.out.mono ?_
    rintro e w6 ⟨⟨a, c, d, f, rfl, hf⟩, hb6⟩
    have HF := Lib.hid hf
    have HW6 := Lib.hid (HW5.out.call hb6)
    clear hf hb6 HW5 HTK
    go_upto_region 8 with (first
      | (refine wpList_store_row rfl 26 (.tmp 9) (.tmp 37) rfl w6.heap.size #[a, c, d, f] rfl rfl 26 nil4 (Blk.new w6 nil4 26) size_state rfl HF.out.one ?_))
    have HS7 : Hid (Blk ((w6.alloc (.cells #[.slice none 0 0, .slice none 0 0, .slice none 0 0, .slice none 0 0] 26)).setRow w6.heap.size #[a, c, d, f]) w6.heap.size #[a, c, d, f] 26) := (Blk.new w6 nil4 26).put _
    have hbl : Below w6.heap.size w6 ((w6.alloc (.cells #[.slice none 0 0, .slice none 0 0, .slice none 0 0, .slice none 0 0] 26)).setRow w6.heap.size #[a, c, d, f]) := below_put (Nat.le_refl _) _ ((Below.refl _ _).alloc (Nat.le_refl _) _)
    have HW7 := Lib.hid (HW6.out.call hbl)
    have HN7 : Hid (SnAt ((w6.alloc (.cells #[.slice none 0 0, .slice none 0 0, .slice none 0 0, .slice none 0 0] 26)).setRow w6.heap.size #[a, c, d, f]) #[a, c, d, f] x) := HF.out.snat.below hbl
    clear hbl
    obtain ⟨s7, hs7⟩ : ∃ s7, w6.heap.size = s7 := ⟨_, rfl⟩
    generalize (w6.alloc (.cells #[.slice none 0 0, .slice none 0 0, .slice none 0 0, .slice none 0 0] 26)).setRow w6.heap.size #[a, c, d, f] = w7 at HS7 HW7 HN7 ⊢
    rw [hs7] at HS7 ⊢
    clear hs7 HF HW6
    have HSS : Hid (Calls Tryd.prog 14 #[.agg #[a, c, d, f], .agg A] w7 fun e w2 => e = .returned (.bool true) ∧ Below w7.heap.size w7 w2) := by
      have h := book_state w7 #[a, c, d, f] A x x HN7.out (HA.out _ HW7.out.2)
      rw [decide_eq_true (rfl : x = x)] at h
      exact h
    clear HN7
    go_wp2_with (first
      | (refine wpList_load_row_if (by kernel_rfl) 26 (.tmp 9) rfl s7 rfl 26 #[a, c, d, f] (0, 0) _ HS7.out Tryd.underlying26 rfl size_state ?_)
      | (refine wpList_load_row_if (by kernel_rfl) 26 (.tmp 4) rfl (w.heap.size + 1) rfl 26 A (0, 0) _ HW7.out.1.2.2 Tryd.underlying26 rfl HSA.out ?_))
    refine HSS.out.mono ?_
    rintro e w8 ⟨rfl, hb8⟩
    have HW8 := Lib.hid (HW7.out.call hb8)
    clear hb8 HSS HS7 HW7
    go_wp2_with (first
      | (refine wpList_load_row_if (by kernel_rfl) 23 (.tmp 3) rfl w.heap.size rfl 23 (gv b l y n s r) (0, 0) _ HW8.out.1.2.1 Tryd.underlying23 rfl size_geo ?_)
      | (refine wpList_load_row_if (by kernel_rfl) 26 (.tmp 4) rfl (w.heap.size + 1) rfl 26 A (0, 0) _ HW8.out.1.2.2 Tryd.underlying26 rfl HSA.out ?_))
    refine (HFI.out _ HW8.out).mono ?_
    rintro e w9 ⟨rfl, hb9⟩
    have HWT := Lib.hid (HW8.out.call hb9)
    clear hb9 HW8
    clear HFI HFC
    go_wp2_with (first
      | (refine wpList_load_row rfl 23 (.tmp 3) rfl w.heap.size rfl 23 (gv b l y n s r) (0, 0) _ HWT.out.1.2.1 Tryd.underlying23 rfl size_geo ?_))
    refine (sn_take w9 b l y n s r (.slice oa L cap) ps (HP.out _ HWT.out.2)).mono ?_
    rintro e w12 ⟨⟨va, vb, vc, vd, rfl, hf⟩, hb12⟩
    have HF := Lib.hid hf
    have HW12 := Lib.hid (HWT.out.call hb12)
    clear hf hb12 HWT
    have htk := tk_cases b l y n s r ps
    obtain ⟨tx, htx⟩ : ∃ tx, tkX b l y n s r ps = tx := ⟨_, rfl⟩
    obtain ⟨te, hte⟩ : ∃ te, tkE b l y n s r ps = te := ⟨_, rfl⟩
    rw [htx] at HF
    rw [hte]
    rw [htx, hte] at htk
    clear htx hte
    go_upto_region 13 with (first
      | (refine wpList_store_row rfl 26 (.tmp 11) (.tmp 65) rfl w12.heap.size #[va, vb, vc, vd] rfl rfl 26 nil4 (Blk.new w12 nil4 26) size_state rfl HF.out.one ?_))
    have HS13 : Hid (Blk ((w12.alloc (.cells #[.slice none 0 0, .slice none 0 0, .slice none 0 0, .slice none 0 0] 26)).setRow w12.heap.size #[va, vb, vc, vd]) w12.heap.size #[va, vb, vc, vd] 26) := (Blk.new w12 nil4 26).put _
    have hbl : Below w12.heap.size w12 ((w12.alloc (.cells #[.slice none 0 0, .slice none 0 0, .slice none 0 0, .slice none 0 0] 26)).setRow w12.heap.size #[va, vb, vc, vd]) := below_put (Nat.le_refl _) _ ((Below.refl _ _).alloc (Nat.le_refl _) _)
    have HW13 := Lib.hid (HW12.out.call hbl)
    have HN13 := Lib.hid (HF.out.snat.below hbl)
    clear hbl
    obtain ⟨s13, hs13⟩ : ∃ s13, w12.heap.size = s13 := ⟨_, rfl⟩
    generalize (w12.alloc (.cells #[.slice none 0 0, .slice none 0 0, .slice none 0 0, .slice none 0 0] 26)).setRow w12.heap.size #[va, vb, vc, vd] = w13 at HS13 HW13 HN13 ⊢
    rw [hs13] at HS13 ⊢
    clear hs13 HF HW12
    rcases htk with ⟨rfl, hfi, hpp⟩ | ⟨hne, rfl⟩
    · have hpe : ptE b l y n s r tx = 0 := by rcases ptE_fits b l y n s r tx with h | h; exact h.2; rw [hfi] at h; exact absurd h.1 (by decide)
      have HPU : Hid (Calls Tryd.prog 7 #[.agg (gv b l y n s r), .agg #[va, vb, vc, vd]] w13 fun e w' => (∃ v, e = .returned (.tuple #[v, .int .i64 0]) ∧ TsC w' v ps) ∧ Below w13.heap.size w13 w') := by
        refine (sn_putC w13 b l y n s r _ tx HN13.out).mono ?_
        rintro e w' ⟨⟨v, rfl, hv⟩, hb⟩
        rw [hpe]
        rw [hpp] at hv
        exact ⟨⟨v, rfl, TsC.own rfl hv⟩, hb⟩
      clear hpe hfi hpp HN13
      go_wp2_with (first
        | (refine wpList_load_row rfl 23 (.tmp 3) rfl w.heap.size rfl 23 (gv b l y n s r) (0, 0) _ HW13.out.1.2.1 Tryd.underlying23 rfl size_geo ?_)
        | (refine wpList_load_row rfl 26 (.tmp 11) rfl s13 rfl 26 #[va, vb, vc, vd] (0, 0) _ HS13.out Tryd.underlying26 rfl size_state ?_))
      refine HPU.out.mono ?_
      rintro e w14 ⟨⟨v, rfl, hv⟩, hb14⟩
      have HW14 := Lib.hid (HW13.out.call hb14)
      have HV := Lib.hid hv
      have HST : Hid (Calls Tryd.prog 13 #[v, .slice oa L cap] w14 fun e w2 => e = .returned (.bool true) ∧ Below w14.heap.size w14 w2) := by
        have h := book_textsG w14 v (.slice oa L cap) ps ps ⟨HL.out, HL.out⟩ HV.out.ts (HP.out _ HW14.out.2).ts
        rw [decide_eq_true (rfl : ps = ps)] at h
        exact h
      clear hv hb14 HPU HW13 HS13 HV
      go_wp2_with fail
      refine HST.out.mono ?_
      rintro e w15 ⟨rfl, hb15⟩
      have HB : Hid (Below w.heap.size w w15) := (HW14.out.call hb15).2
      clear hb15
      go_wp2_with fail
      go_ret
      exact ⟨rfl, HB.out⟩
    · have HSS : Hid (Calls Tryd.prog 14 #[.agg #[va, vb, vc, vd], .agg nil4] w13 fun e w2 => e = .returned (.bool true) ∧ Below w13.heap.size w13 w2) := by
        have h := book_state w13 #[va, vb, vc, vd] nil4 noneN noneN HN13.out (snat_nil4 _)
        rw [decide_eq_true (rfl : noneN = noneN)] at h
        exact h
      clear HN13
      go_wp2_with (first
        | (refine wpList_load_row rfl 26 (.tmp 11) rfl s13 rfl 26 #[va, vb, vc, vd] (0, 0) _ HS13.out Tryd.underlying26 rfl size_state ?_))
      refine HSS.out.mono ?_
      rintro e w15 ⟨rfl, hb15⟩
      have HB : Hid (Below w.heap.size w w15) := (HW13.out.call hb15).2
      clear hb15 HSS HS13
      go_wp2_with fail
      go_ret
      exact ⟨rfl, HB.out⟩
  · obtain ⟨o2, cap2, hve, _, _⟩ := htv
    rw [hpp] at hve
    have hve : va = .slice o2 0 cap2 := hve
    subst hve
    rw [hq] at HFI
    have HFC := HFI
    clear hq hpp
    go_wp2_with (first
      | (refine wpList_load_row rfl 23 (.tmp 3) rfl w.heap.size rfl 23 (gv b l y n s r) (0, 0) _ HW5.out.1.2.1 Tryd.underlying23 rfl size_geo ?_)
      | (refine wpList_load_row rfl 26 (.tmp 4) rfl (w.heap.size + 1) rfl 26 A (0, 0) _ HW5.out.1.2.2 Tryd.underlying26 rfl HSA.out ?_))
    refine (HFI.out _ HW5.out).mono ?_
    rintro e w9 ⟨rfl, hb9⟩
    have HWT := Lib.hid (HW5.out.call hb9)
    clear hb9 HW5
    clear HFI HFC
    go_wp2_with (first
      | (refine wpList_load_row rfl 23 (.tmp 3) rfl w.heap.size rfl 23 (gv b l y n s r) (0, 0) _ HWT.out.1.2.1 Tryd.underlying23 rfl size_geo ?_))
    refine (sn_take w9 b l y n s r (.slice oa L cap) ps (HP.out _ HWT.out.2)).mono ?_
    rintro e w12 ⟨⟨va, vb, vc, vd, rfl, hf⟩, hb12⟩
    have HF := Lib.hid hf
    have HW12 := Lib.hid (HWT.out.call hb12)
    clear hf hb12 HWT
    have htk := tk_cases b l y n s r ps
    obtain ⟨tx, htx⟩ : ∃ tx, tkX b l y n s r ps = tx := ⟨_, rfl⟩
    obtain ⟨te, hte⟩ : ∃ te, tkE b l y n s r ps = te := ⟨_, rfl⟩
    rw [htx] at HF
    rw [hte]
    rw [htx, hte] at htk
    clear htx hte
    go_upto_region 13 with (first
      | (refine wpList_store_row rfl 26 (.tmp 11) (.tmp 65) rfl w12.heap.size #[va, vb, vc, vd] rfl rfl 26 nil4 (Blk.new w12 nil4 26) size_state rfl HF.out.one ?_))
    have HS13 : Hid (Blk ((w12.alloc (.cells #[.slice none 0 0, .slice none 0 0, .slice none 0 0, .slice none 0 0] 26)).setRow w12.heap.size #[va, vb, vc, vd]) w12.heap.size #[va, vb, vc, vd] 26) := (Blk.new w12 nil4 26).put _
    have hbl : Below w12.heap.size w12 ((w12.alloc (.cells #[.slice none 0 0, .slice none 0 0, .slice none 0 0, .slice none 0 0] 26)).setRow w12.heap.size #[va, vb, vc, vd]) := below_put (Nat.le_refl _) _ ((Below.refl _ _).alloc (Nat.le_refl _) _)
    have HW13 := Lib.hid (HW12.out.call hbl)
    have HN13 := Lib.hid (HF.out.snat.below hbl)
    clear hbl
    obtain ⟨s13, hs13⟩ : ∃ s13, w12.heap.size = s13 := ⟨_, rfl⟩
    generalize (w12.alloc (.cells #[.slice none 0 0, .slice none 0 0, .slice none 0 0, .slice none 0 0] 26)).setRow w12.heap.size #[va, vb, vc, vd] = w13 at HS13 HW13 HN13 ⊢
    rw [hs13] at HS13 ⊢
    clear hs13 HF HW12
    rcases htk with ⟨rfl, hfi, hpp⟩ | ⟨hne, rfl⟩
    · have hpe : ptE b l y n s r tx = 0 := by rcases ptE_fits b l y n s r tx with h | h; exact h.2; rw [hfi] at h; exact absurd h.1 (by decide)
      have HPU : Hid (Calls Tryd.prog 7 #[.agg (gv b l y n s r), .agg #[va, vb, vc, vd]] w13 fun e w' => (∃ v, e = .returned (.tuple #[v, .int .i64 0]) ∧ TsC w' v ps) ∧ Below w13.heap.size w13 w') := by
        refine (sn_putC w13 b l y n s r _ tx HN13.out).mono ?_
        rintro e w' ⟨⟨v, rfl, hv⟩, hb⟩
        rw [hpe]
        rw [hpp] at hv
        exact ⟨⟨v, rfl, TsC.own rfl hv⟩, hb⟩
      clear hpe hfi hpp HN13
      go_wp2_with (first
        | (refine wpList_load_row rfl 23 (.tmp 3) rfl w.heap.size rfl 23 (gv b l y n s r) (0, 0) _ HW13.out.1.2.1 Tryd.underlying23 rfl size_geo ?_)
        | (refine wpList_load_row rfl 26 (.tmp 11) rfl s13 rfl 26 #[va, vb, vc, vd] (0, 0) _ HS13.out Tryd.underlying26 rfl size_state ?_))
      refine HPU.out.mono ?_
      rintro e w14 ⟨⟨v, rfl, hv⟩, hb14⟩
      have HW14 := Lib.hid (HW13.out.call hb14)
      have HV := Lib.hid hv
      have HST : Hid (Calls Tryd.prog 13 #[v, .slice oa L cap] w14 fun e w2 => e = .returned (.bool true) ∧ Below w14.heap.size w14 w2) := by
        have h := book_textsG w14 v (.slice oa L cap) ps ps ⟨HL.out, HL.out⟩ HV.out.ts (HP.out _ HW14.out.2).ts
        rw [decide_eq_true (rfl : ps = ps)] at h
        exact h
      clear hv hb14 HPU HW13 HS13 HV
      go_wp2_with fail
      refine HST.out.mono ?_
      rintro e w15 ⟨rfl, hb15⟩
      have HB : Hid (Below w.heap.size w w15) := (HW14.out.call hb15).2
      clear hb15
      go_wp2_with fail
      go_ret
      exact ⟨rfl, HB.out⟩
    · have HSS : Hid (Calls Tryd.prog 14 #[.agg #[va, vb, vc, vd], .agg nil4] w13 fun e w2 => e = .returned (.bool true) ∧ Below w13.heap.size w13 w2) := by
        have h := book_state w13 #[va, vb, vc, vd] nil4 noneN noneN HN13.out (snat_nil4 _)
        rw [decide_eq_true (rfl : noneN = noneN)] at h
        exact h
      clear HN13
      go_wp2_with (first
        | (refine wpList_load_row rfl 26 (.tmp 11) rfl s13 rfl 26 #[va, vb, vc, vd] (0, 0) _ HS13.out Tryd.underlying26 rfl size_state ?_))
      refine HSS.out.mono ?_
      rintro e w15 ⟨rfl, hb15⟩
      have HB : Hid (Below w.heap.size w w15) := (HW13.out.call hb15).2
      clear hb15 HSS HS13
      go_wp2_with fail
      go_ret
      exact ⟨rfl, HB.out⟩

end Go.Proofs.YtidakannaephoaaDoor
