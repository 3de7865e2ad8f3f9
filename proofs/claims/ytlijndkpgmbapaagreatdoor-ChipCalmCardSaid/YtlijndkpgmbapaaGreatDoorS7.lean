/- Texts of one claim, merged: CeC4, CeC5, CeC6, CeC7, CeC8. -/
import Derived.Test.YtlijndkpgmbapaaGreatDoorS6

/- Package cell, walked: count, empty, and what a cell is asked. -/
namespace Go.Proofs.YtlijndkpgmbapaaGreatDoor
set_option maxRecDepth 100000
open Go.RowKit

theorem ce_count (o L g cap : Nat) (bl : ByteArray) (m : Int) (d sl tl : Nat) (bad torn : Bool) (w : World) (hk : Blk w o (cc L g cap bl m d sl tl bad torn) 113) (h1 : sl < 1000000000) (h2 : tl < 1000000000) :
    Calls Tryz.prog 103 #[.pointer (some ⟨o, 0, none⟩)] w fun e w' => e = .returned (.tuple #[]) ∧ Blk w' o (cc L g cap bl m d (if m = 2 then sl else sl + 1) (if m = 2 then tl + 1 else tl) bad torn) 113 ∧ Only (fun k => k = o) w w' := by
  have c2 : w.cell? ⟨o, 2, none⟩ = some (.int .i64 m) := hk.cell 2
  have c4 : w.cell? ⟨o, 4, none⟩ = some (.int .i64 (sl : Int)) := hk.cell 4
  have c5 : w.cell? ⟨o, 5, none⟩ = some (.int .i64 (tl : Int)) := hk.cell 5
  have f4 := hk.free 4
  have f5 := hk.free 5
  have HK := Lib.hid hk
  clear hk
  by_cases hm : m = 2
  · subst hm
    rw [if_pos rfl, if_pos rfl]
    go_enter Tryz.func103, Tryz.ntmps103
    go_wp2_with fail
    refine bodyPost_ret (results_none rfl _ _ _) rfl ⟨rfl, HK.out.set 5 _ ?_, (Only.refl _ _).setCell _ _ rfl⟩
    unfold cc
    simp
  · rw [if_neg hm, if_neg hm]
    have h1b : (m == 2) = false := by simpa using hm
    go_enter Tryz.func103, Tryz.ntmps103
    go_wp2_with fail
    refine bodyPost_end (results_none rfl _ _ _) rfl ⟨rfl, HK.out.set 4 _ ?_, (Only.refl _ _).setCell _ _ rfl⟩
    unfold cc
    simp

/-- all lines are blank -/
def blankL (bl : ByteArray) : Ln := ⟨bl, bl, bl, false⟩
theorem all_blank {bl : ByteArray} {ls : List Ln} {L : Nat} (hl : ls.length = L) (h : ∀ j, j < L → lnAt ls j = blankL bl) : ls = List.replicate L (blankL bl) := by
  refine List.ext_getElem (by simp [hl]) fun j h1 h2 => ?_
  have h3 := h j (by omega)
  unfold lnAt at h3
  rw [List.getD_eq_getElem?_getD, List.getElem?_eq_getElem h1] at h3
  simpa using h3
set_option maxHeartbeats 1000000 in
theorem ce_empty (o L g cap : Nat) (bl : ByteArray) (m : Int) (d sl tl : Nat) (bad torn : Bool) (ls : List Ln) (w : World) (hk : Blk w o (cc L g cap bl m d sl tl bad torn) 113) (hl : LnsAt w g ls) (hlen : ls.length = L) (hne : o ≠ g)
    (h64 : L ≤ 64) :
    Calls Tryz.prog 74 #[.pointer (some ⟨o, 0, none⟩)] w fun e w' => e = .returned (.tuple #[]) ∧ Blk w' o (cc L g cap bl 0 0 sl tl bad false) 113 ∧ LnsAt w' g (List.replicate L (blankL bl)) ∧ Only (fun k => k = o ∨ k = g) w w' := by
  have c0 : w.cell? ⟨o, 0, none⟩ = some (.slice (some ⟨g, 0, none⟩) L cap) := hk.cell 0
  have HI : Hid (Blk w o (cc L g cap bl m d sl tl bad torn) 113 ∧ ∃ l2 : List Ln, l2.length = L ∧ (∀ j, j < 0 → lnAt l2 j = blankL bl) ∧ LnsAt w g l2) := ⟨hk, ls, hlen, fun j hj => absurd hj (Nat.not_lt_zero _), hl⟩
  have HNE := Lib.hid hne
  clear hk hl hlen hne
  go_enter Tryz.func74, Tryz.ntmps74
  go_wp2_with fail
  go_loopw [8] (fun iv wr => ∃ i : Nat, i ≤ L ∧ iv = .int .i64 i ∧ Blk wr o (cc L g cap bl m d sl tl bad torn) 113 ∧ (∃ l2 : List Ln, l2.length = L ∧ (∀ j, j < i → lnAt l2 j = blankL bl) ∧ LnsAt wr g l2) ∧ Only (fun k => k = o ∨ k = g) w wr) (fun iv _ => L - (intOf iv).toNat)
  case atStart => exact ⟨0, Nat.zero_le _, rfl, HI.out.1, HI.out.2, Only.refl _ _⟩
  case round =>
    obtain ⟨i, hi, rfl, hk, ⟨l2, hl2, hj2, hr2⟩, ho⟩ := hrel
    have HK := Lib.hid hk
    have HO := Lib.hid ho
    have HL2 := Lib.hid hl2
    have HJ2 := Lib.hid hj2
    have HR2 := Lib.hid hr2
    clear HI
    by_cases hlt : i < L
    · have d0 : wr.cell? ⟨o, 0, none⟩ = some (.slice (some ⟨g, 0, none⟩) L cap) := hk.cell 0
      have d1 : wr.cell? ⟨o, 1, none⟩ = some (.string bl) := hk.cell 1
      clear c0 hk hl2 hj2 hr2 ho
      go_wp2_with fail
      go_still_tail 20, (by kernel_rfl)
      change wpList _ _ _ _ _ wr.drew
      have ht : wr.drew.there g (i * 4) 4 := (World.there_drew _ _ _ _).2 (HR2.out i (by rw [HL2.out]; exact hlt)).2
      have HT := Lib.hid ht
      clear d0 d1 ht
      go_wp2_with (refine wpList_store_mid rfl 121 (.tmp 30) (.tmp 29) rfl g (i * 4) (lv (blankL bl)) rfl rfl HT.out size_line (lv_one _) ?_)
      go_roundw
      case rel =>
        refine ⟨i + 1, by omega, by go_num, ?_, ⟨l2.set i (blankL bl), by rw [List.length_set]; exact HL2.out, fun j hj => ?_, ?_⟩, Only.setCells g (Or.inr rfl) _ _ _ HO.out.drew⟩
        · have h1 := HK.out.drew
          unfold Blk at *
          rw [setCells_heap_ne _ _ HNE.out]
          exact h1
        · rw [lnAt_set _ _ _ _ (by rw [HL2.out]; exact hlt)]
          split
          · rfl
          · exact HJ2.out j (by omega)
        · have h2 : LnsAt wr.drew g l2 := HR2.out.keep rfl
          exact h2.set i (blankL bl) (by rw [HL2.out]; exact hlt)
      case measure => simp [intOf]; omega
    · have hiL : i = L := by omega
      have f2 := hk.free 2
      have f3 := hk.free 3
      have f7 := hk.free 7
      have d2 : wr.cell? ⟨o, 2, none⟩ = some (.int .i64 m) := hk.cell 2
      have d3 : wr.cell? ⟨o, 3, none⟩ = some (.int .i64 d) := hk.cell 3
      have d7 : wr.cell? ⟨o, 7, none⟩ = some (.bool torn) := hk.cell 7
      clear c0 hk hl2 hj2 hr2 ho
      go_wp2_with fail
      have hr := all_blank HL2.out (fun j hj => HJ2.out j (by omega))
      have hk5 : Blk (((wr.setCell ⟨o, 2, none⟩ (.int .i64 0)).setCell ⟨o, 3, none⟩ (.int .i64 0)).setCell ⟨o, 7, none⟩ (.bool false)) o (cc L g cap bl 0 0 sl tl bad false) 113 := ((HK.out.set 2 _ rfl).set 3 _ rfl).set 7 _ rfl
      have hne := HNE.out
      refine bodyPost_end (results_none rfl _ _ _) rfl ⟨rfl, hk5, ?_, ?_⟩
      · rw [← hr]
        refine HR2.out.keep ?_
        rw [Below.heap_setCell _ _ _ _ (by exact hne.symm), Below.heap_setCell _ _ _ _ (by exact hne.symm), Below.heap_setCell _ _ _ _ (by exact hne.symm)]
      · exact ((HO.out.setCell ⟨o, 2, none⟩ _ (Or.inl rfl)).setCell ⟨o, 3, none⟩ _ (Or.inl rfl)).setCell ⟨o, 7, none⟩ _ (Or.inl rfl)

theorem ce_mode0 (o : Nat) (cs : Array Value) (w : World) (m : Int) (hk : Blk w o cs 113) (hc : cs[2]? = some (.int .i64 m)) : Calls Tryz.prog 67 #[.pointer (some ⟨o, 0, none⟩)] w fun e w' => e = .returned (.int .i64 m) ∧ w = w' := by
  have c : w.cell? ⟨o, 2, none⟩ = some (.int .i64 m) := (hk.cell 2).trans hc
  clear hk hc
  go_enter Tryz.func67, Tryz.ntmps67
  go_wp2_with fail
  go_ret
  exact ⟨rfl, rfl⟩
theorem ce_bad0 (o : Nat) (cs : Array Value) (w : World) (m : Bool) (hk : Blk w o cs 113) (hc : cs[6]? = some (.bool m)) : Calls Tryz.prog 68 #[.pointer (some ⟨o, 0, none⟩)] w fun e w' => e = .returned (.bool m) ∧ w = w' := by
  have c : w.cell? ⟨o, 6, none⟩ = some (.bool m) := (hk.cell 6).trans hc
  clear hk hc
  go_enter Tryz.func68, Tryz.ntmps68
  go_wp2_with fail
  go_ret
  exact ⟨rfl, rfl⟩
theorem ce_counts0 (o : Nat) (cs : Array Value) (w : World) (a b : Int) (hk : Blk w o cs 113) (hc : cs[4]? = some (.int .i64 a)) (hd : cs[5]? = some (.int .i64 b)) : Calls Tryz.prog 66 #[.pointer (some ⟨o, 0, none⟩)] w fun e w' => e = .returned (.tuple #[.int .i64 a, .int .i64 b]) ∧ Below w.heap.size w w' := by
  have c4 : w.cell? ⟨o, 4, none⟩ = some (.int .i64 a) := (hk.cell 4).trans hc
  have c5 : w.cell? ⟨o, 5, none⟩ = some (.int .i64 b) := (hk.cell 5).trans hd
  clear hk hc hd
  go_enter Tryz.func66, Tryz.ntmps66
  go_wp2_with fail
  go_quiet (fail)
  go_wp2_with fail
  go_ret2
  exact ⟨rfl, drewN_below2 _ _ _⟩

end Go.Proofs.YtlijndkpgmbapaaGreatDoor

/- Package cell, walked: isNext. -/
namespace Go.Proofs.YtlijndkpgmbapaaGreatDoor
set_option maxRecDepth 100000
open Go.RowKit

/-- a step that is none -/
def ZS : Array Value := #[.int .i64 0, .bool false]
/-- a world goes on: blocks of a step stay, or become the one that is looked for -/
def KeepT (A B : Array Value) (w w' : World) : Prop := (∀ b, Blk w b A 135 → Blk w' b A 135 ∨ Blk w' b B 135) ∧ (∀ b, Blk w b B 135 → Blk w' b B 135)
theorem KeepT.refl (A B : Array Value) (w : World) : KeepT A B w w := ⟨fun _ h => Or.inl h, fun _ h => h⟩
theorem KeepT.call (A B : Array Value) {w w' : World} (hb : Below w.heap.size w w') : KeepT A B w w' := ⟨fun _ h => Or.inl (h.after hb), fun _ h => h.after hb⟩
theorem KeepT.put (A B : Array Value) {w : World} {z : Nat} {cs : Array Value} (hz : Blk w z cs 135) : KeepT A B w (w.setRow z B) := by
  refine ⟨fun b h => ?_, fun b h => ?_⟩
  · by_cases e : b = z
    · subst e; exact Or.inr (hz.put B)
    · exact Or.inl (h.put_other (Ne.symm e) B)
  · by_cases e : b = z
    · subst e; exact hz.put B
    · exact h.put_other (Ne.symm e) B
theorem CB.put {w0 w : World} {o z : Nat} {cs ds : Array Value} (h : CB w0 o cs w) (ho : o < w0.heap.size) (hz : w0.heap.size ≤ z) : CB w0 o cs (w.setRow z ds) := ⟨h.1.put_other (by omega) _, below_put hz _ h.2⟩
/-- slot 5 leads to the new block -/
def SpIN (w0 : World) (A B : Array Value) (j : Nat) (a : Act) (w : World) : Prop :=
  (j = 13 → ∃ z, a.tmps.getD 5 undef = .pointer (some ⟨z, 0, none⟩) ∧ w0.heap.size ≤ z ∧ (Blk w z A 135 ∨ Blk w z B 135))
  ∧ (j = 14 → ∃ z, a.tmps.getD 5 undef = .pointer (some ⟨z, 0, none⟩) ∧ w0.heap.size ≤ z ∧ Blk w z B 135)
theorem SpIN.ext (w0 : World) (A B : Array Value) : ∀ (j : Nat) (a a' : Act) (w w' : World), SpIN w0 A B j a w → (∀ d ∈ (if j = 13 ∨ j = 14 then [5] else []), a'.tmps.getD d undef = a.tmps.getD d undef) → KeepT A B w w' → SpIN w0 A B j a' w' := by
  rintro j a a' w w' ⟨f1, f2⟩ hx hT
  refine ⟨fun h => ?_, fun h => ?_⟩
  · obtain ⟨z, h1, h2, h3⟩ := f1 h
    refine ⟨z, (hx 5 (by rw [if_pos (Or.inl h)]; exact List.mem_singleton_self _)).trans h1, h2, ?_⟩
    rcases h3 with h3 | h3
    · exact hT.1 z h3
    · exact Or.inr (hT.2 z h3)
  · obtain ⟨z, h1, h2, h3⟩ := f2 h
    exact ⟨z, (hx 5 (by rw [if_pos (Or.inr h)]; exact List.mem_singleton_self _)).trans h1, h2, hT.2 z h3⟩
/-- what each operation of the region IN leaves -/
def vsIN (o g cap L d : Nat) (x : Int) (y : Bool) (c : Int) : List (Option (Tmp × Value)) :=
  [some (8, .pointer (some ⟨o, 0, none⟩)), some (9, .pointer (some ⟨o, 0, none⟩)), some (10, .pointer (some ⟨o, 0, none⟩)), some (11, .slice (some ⟨g, 0, none⟩) L cap), some (12, .int .i64 (L : Int)), some (13, .pointer (some ⟨o, 0, none⟩)), some (14, .pointer (some ⟨o, 0, none⟩)), some (15, .pointer (some ⟨o, 3, none⟩)), some (16, .int .i64 (d : Int)), some (17, .tuple #[.agg (sv x y), .int .i64 c]), some (7, .tuple #[.agg (sv x y), .int .i64 c]), some (18, .agg (sv x y)), some (19, .int .i64 c), none, none, some (6, .int .i64 c)]
/-- the frame while the region IN runs -/
def BaseIN (o B : Nat) (a : Act) : Prop := ∃ u : Nat → Value, a = ⟨#[.pointer (some ⟨o, 0, none⟩), u 1, u 2, .pointer (some ⟨B, 0, none⟩), u 4, u 5, u 6, u 7, u 8, u 9, u 10, u 11, u 12, u 13, u 14, u 15, u 16, u 17, u 18, u 19, u 20, u 21, u 22, u 23, u 24, u 25, u 26], []⟩
theorem BaseIN.of {o B : Nat} (arr : Array Value) (h : arr = #[.pointer (some ⟨o, 0, none⟩), arr.getD 1 undef, arr.getD 2 undef, .pointer (some ⟨B, 0, none⟩), arr.getD 4 undef, arr.getD 5 undef, arr.getD 6 undef, arr.getD 7 undef, arr.getD 8 undef, arr.getD 9 undef, arr.getD 10 undef, arr.getD 11 undef, arr.getD 12 undef, arr.getD 13 undef, arr.getD 14 undef, arr.getD 15 undef, arr.getD 16 undef, arr.getD 17 undef, arr.getD 18 undef, arr.getD 19 undef, arr.getD 20 undef, arr.getD 21 undef, arr.getD 22 undef, arr.getD 23 undef, arr.getD 24 undef, arr.getD 25 undef, arr.getD 26 undef]) : BaseIN o B ⟨arr, []⟩ := ⟨fun i => arr.getD i undef, by rw [← h]⟩
theorem BaseIN.put8 {o B : Nat} (a : Act) (v : Value) (h : BaseIN o B a) : BaseIN o B (a.put (some 8) v) := by
  obtain ⟨u, rfl⟩ := h
  exact ⟨fun i => if i = 8 then v else u i, by kernel_rfl⟩
theorem BaseIN.put9 {o B : Nat} (a : Act) (v : Value) (h : BaseIN o B a) : BaseIN o B (a.put (some 9) v) := by
  obtain ⟨u, rfl⟩ := h
  exact ⟨fun i => if i = 9 then v else u i, by kernel_rfl⟩
theorem BaseIN.put10 {o B : Nat} (a : Act) (v : Value) (h : BaseIN o B a) : BaseIN o B (a.put (some 10) v) := by
  obtain ⟨u, rfl⟩ := h
  exact ⟨fun i => if i = 10 then v else u i, by kernel_rfl⟩
theorem BaseIN.put11 {o B : Nat} (a : Act) (v : Value) (h : BaseIN o B a) : BaseIN o B (a.put (some 11) v) := by
  obtain ⟨u, rfl⟩ := h
  exact ⟨fun i => if i = 11 then v else u i, by kernel_rfl⟩
theorem BaseIN.put12 {o B : Nat} (a : Act) (v : Value) (h : BaseIN o B a) : BaseIN o B (a.put (some 12) v) := by
  obtain ⟨u, rfl⟩ := h
  exact ⟨fun i => if i = 12 then v else u i, by kernel_rfl⟩
theorem BaseIN.put13 {o B : Nat} (a : Act) (v : Value) (h : BaseIN o B a) : BaseIN o B (a.put (some 13) v) := by
  obtain ⟨u, rfl⟩ := h
  exact ⟨fun i => if i = 13 then v else u i, by kernel_rfl⟩
theorem BaseIN.put14 {o B : Nat} (a : Act) (v : Value) (h : BaseIN o B a) : BaseIN o B (a.put (some 14) v) := by
  obtain ⟨u, rfl⟩ := h
  exact ⟨fun i => if i = 14 then v else u i, by kernel_rfl⟩
theorem BaseIN.put15 {o B : Nat} (a : Act) (v : Value) (h : BaseIN o B a) : BaseIN o B (a.put (some 15) v) := by
  obtain ⟨u, rfl⟩ := h
  exact ⟨fun i => if i = 15 then v else u i, by kernel_rfl⟩
theorem BaseIN.put16 {o B : Nat} (a : Act) (v : Value) (h : BaseIN o B a) : BaseIN o B (a.put (some 16) v) := by
  obtain ⟨u, rfl⟩ := h
  exact ⟨fun i => if i = 16 then v else u i, by kernel_rfl⟩
theorem BaseIN.put17 {o B : Nat} (a : Act) (v : Value) (h : BaseIN o B a) : BaseIN o B (a.put (some 17) v) := by
  obtain ⟨u, rfl⟩ := h
  exact ⟨fun i => if i = 17 then v else u i, by kernel_rfl⟩
theorem BaseIN.put7 {o B : Nat} (a : Act) (v : Value) (h : BaseIN o B a) : BaseIN o B (a.put (some 7) v) := by
  obtain ⟨u, rfl⟩ := h
  exact ⟨fun i => if i = 7 then v else u i, by kernel_rfl⟩
theorem BaseIN.put18 {o B : Nat} (a : Act) (v : Value) (h : BaseIN o B a) : BaseIN o B (a.put (some 18) v) := by
  obtain ⟨u, rfl⟩ := h
  exact ⟨fun i => if i = 18 then v else u i, by kernel_rfl⟩
theorem BaseIN.put19 {o B : Nat} (a : Act) (v : Value) (h : BaseIN o B a) : BaseIN o B (a.put (some 19) v) := by
  obtain ⟨u, rfl⟩ := h
  exact ⟨fun i => if i = 19 then v else u i, by kernel_rfl⟩
theorem BaseIN.put5 {o B : Nat} (a : Act) (v : Value) (h : BaseIN o B a) : BaseIN o B (a.put (some 5) v) := by
  obtain ⟨u, rfl⟩ := h
  exact ⟨fun i => if i = 5 then v else u i, by kernel_rfl⟩
theorem BaseIN.put6 {o B : Nat} (a : Act) (v : Value) (h : BaseIN o B a) : BaseIN o B (a.put (some 6) v) := by
  obtain ⟨u, rfl⟩ := h
  exact ⟨fun i => if i = 6 then v else u i, by kernel_rfl⟩

set_option maxHeartbeats 1000000 in
theorem ce_isNext (o L g cap : Nat) (bl : ByteArray) (m : Int) (d sl tl : Nat) (bad torn : Bool) (l : Int) (f : Bool) (w : World) (hk : Blk w o (cc L g cap bl m d sl tl bad torn) 113) :
    Calls Tryz.prog 100 #[.pointer (some ⟨o, 0, none⟩), .agg (sv l f)] w fun e w' => e = .returned (.bool (stC (L : Int) (d : Int) == 0 && sameS (stL (L : Int) (d : Int)) (stF (L : Int) (d : Int)) l f)) ∧ Below w.heap.size w w' := by
  have hc : stC (L : Int) (d : Int) = 0 ∨ stC (L : Int) (d : Int) = 1 := by unfold stC; split; exact Or.inl rfl; exact Or.inr rfl
  have HAT := Lib.hid (fun w => or_at (L : Int) (d : Int) w)
  unfold StepT at HAT
  obtain ⟨c, hcc⟩ : ∃ c, stC (L : Int) (d : Int) = c := ⟨_, rfl⟩
  obtain ⟨x, hx⟩ : ∃ x, stL (L : Int) (d : Int) = x := ⟨_, rfl⟩
  obtain ⟨y, hy⟩ : ∃ y, stF (L : Int) (d : Int) = y := ⟨_, rfl⟩
  simp only [hcc, hx, hy] at HAT
  rw [hcc] at hc
  rw [hcc, hx, hy]
  clear hcc hx hy
  obtain ⟨w1, hw1⟩ : ∃ w1, w.alloc (.cells (sv l f) 135) = w1 := ⟨_, rfl⟩
  have hb1 : Below w.heap.size w w1 := by rw [← hw1]; exact (Below.refl _ _).alloc (Nat.le_refl _) _
  have hn1 : Blk w1 w.heap.size (sv l f) 135 := by rw [← hw1]; exact Blk.new w _ _
  have HC0 : Hid (CB w1 o (cc L g cap bl m d sl tl bad torn) w1) := ⟨hk.after hb1, Below.refl _ _⟩
  have HLT : Hid (o < w1.heap.size) := (hk.after hb1).lt
  have HB1 := Lib.hid hb1
  have HN1 := Lib.hid hn1
  have HW1 := Lib.hid hw1
  clear hk hb1 hn1 hw1
  go_enter Tryz.func100, Tryz.ntmps100
  go_wp2_with fail
  change Code.wp _ _ _ _ (w.alloc (.cells (sv l f) 135))
  rw [HW1.out]
  rename_i K0 hK0
  refine wp_region_list3 (SV2 (vsIN o g cap L d x y c) (fun j => if j = 13 ∨ j = 14 then [5] else [])) (BaseIN o w.heap.size) (CB w1 o (cc L g cap bl m d sl tl bad torn)) (KeepT ZS (sv x y)) (RV (vsIN o g cap L d x y c) (SpIN w1 ZS (sv x y))) rfl (by kernel_rfl) (RV.ext2 (SpIN.ext _ _ _)) ?_ (HC0.out.call (Below.refl _ _).drew) (BaseIN.of _ (by kernel_rfl)) ?_ ?_
  · exact ⟨BaseIN.put8, BaseIN.put9, BaseIN.put10, BaseIN.put11, BaseIN.put12, BaseIN.put13, BaseIN.put14, BaseIN.put15, BaseIN.put16, BaseIN.put17, BaseIN.put7, BaseIN.put18, BaseIN.put19, BaseIN.put5, fun a v h => h, BaseIN.put6, trivial⟩
  · refine ⟨?_, ?_, ?_, ?_, ?_, ?_, ?_, ?_, ?_, ?_, ?_, ?_, ?_, ?_, ?_, ?_, trivial⟩
    all_goals
      intro a w' hC hB hR
      obtain ⟨u, rfl⟩ := hB
      have HC := Lib.hid hC
      clear hC
      clear hK0
    · clear hR
      refine if_yes (by kernel_rfl) ?_
      unfold Oper.wp
      go_simp
      exact ⟨.pointer (some ⟨o, 0, none⟩), rfl, HC.out, KeepT.refl _ _ _, rfl⟩
    · have h8 : u 8 = .pointer (some ⟨o, 0, none⟩) := hR ⟨0, .data⟩ (by simp) rfl
      clear hR
      simp only [h8]
      clear h8
      refine if_yes (by kernel_rfl) ?_
      unfold Oper.wp
      go_simp
      exact ⟨.pointer (some ⟨o, 0, none⟩), rfl, HC.out, KeepT.refl _ _ _, rfl⟩
    · have h9 : u 9 = .pointer (some ⟨o, 0, none⟩) := hR ⟨1, .data⟩ (by simp) rfl
      clear hR
      simp only [h9]
      clear h9
      refine if_yes (by kernel_rfl) ?_
      unfold Oper.wp
      go_simp
      exact ⟨.pointer (some ⟨o, 0, none⟩), rfl, HC.out, KeepT.refl _ _ _, rfl⟩
    · have h10 : u 10 = .pointer (some ⟨o, 0, none⟩) := hR ⟨2, .data⟩ (by simp) rfl
      have hc : w'.cell? ⟨o, 0, none⟩ = some (.slice (some ⟨g, 0, none⟩) L cap) := HC.out.1.cell 0
      clear hR
      simp only [h10]
      clear h10
      refine if_yes (by kernel_rfl) ?_
      unfold Oper.wp
      go_simp
      exact ⟨.slice (some ⟨g, 0, none⟩) L cap, rfl, HC.out, KeepT.refl _ _ _, rfl⟩
    · have h11 : u 11 = .slice (some ⟨g, 0, none⟩) L cap := hR ⟨3, .data⟩ (by simp) rfl
      clear hR
      simp only [h11]
      clear h11
      refine if_yes (by kernel_rfl) ?_
      unfold Oper.wp
      go_simp
      exact ⟨.int .i64 (L : Int), rfl, HC.out, KeepT.refl _ _ _, rfl⟩
    · clear hR
      refine if_yes (by kernel_rfl) ?_
      unfold Oper.wp
      go_simp
      exact ⟨.pointer (some ⟨o, 0, none⟩), rfl, HC.out, KeepT.refl _ _ _, rfl⟩
    · have h13 : u 13 = .pointer (some ⟨o, 0, none⟩) := hR ⟨5, .data⟩ (by simp) rfl
      clear hR
      simp only [h13]
      clear h13
      refine if_yes (by kernel_rfl) ?_
      unfold Oper.wp
      go_simp
      exact ⟨.pointer (some ⟨o, 0, none⟩), rfl, HC.out, KeepT.refl _ _ _, rfl⟩
    · have h14 : u 14 = .pointer (some ⟨o, 0, none⟩) := hR ⟨6, .data⟩ (by simp) rfl
      clear hR
      simp only [h14]
      clear h14
      refine if_yes (by kernel_rfl) ?_
      unfold Oper.wp
      go_simp
      exact ⟨.pointer (some ⟨o, 3, none⟩), rfl, HC.out, KeepT.refl _ _ _, rfl⟩
    · have h15 : u 15 = .pointer (some ⟨o, 3, none⟩) := hR ⟨7, .data⟩ (by simp) rfl
      have hc : w'.cell? ⟨o, 3, none⟩ = some (.int .i64 (d : Int)) := HC.out.1.cell 3
      clear hR
      simp only [h15]
      clear h15
      refine if_yes (by kernel_rfl) ?_
      unfold Oper.wp
      go_simp
      exact ⟨.int .i64 (d : Int), rfl, HC.out, KeepT.refl _ _ _, rfl⟩
    · have h12 : u 12 = .int .i64 (L : Int) := hR ⟨4, .data⟩ (by simp) rfl
      have h16 : u 16 = .int .i64 (d : Int) := hR ⟨8, .data⟩ (by simp) rfl
      clear hR
      simp only [h12, h16]
      clear h12 h16
      refine if_yes (by kernel_rfl) ?_
      unfold Oper.wp
      go_simp
      refine (HAT.out _).mono ?_
      rintro e w2 ⟨rfl, hb2⟩
      exact ⟨.tuple #[.agg (sv x y), .int .i64 c], rfl, HC.out.call hb2, KeepT.call _ _ hb2, rfl⟩
    · have h17 : u 17 = .tuple #[.agg (sv x y), .int .i64 c] := hR ⟨9, .data⟩ (by simp) rfl
      clear hR
      simp only [h17]
      clear h17
      refine if_yes (by kernel_rfl) ?_
      unfold Oper.wp
      go_simp
      exact ⟨.tuple #[.agg (sv x y), .int .i64 c], rfl, HC.out, KeepT.refl _ _ _, rfl⟩
    · have h7 : u 7 = .tuple #[.agg (sv x y), .int .i64 c] := hR ⟨10, .data⟩ (by simp) rfl
      clear hR
      simp only [h7]
      clear h7
      refine if_yes (by kernel_rfl) ?_
      unfold Oper.wp
      go_simp
      exact ⟨.agg (sv x y), rfl, HC.out, KeepT.refl _ _ _, rfl⟩
    · have h7 : u 7 = .tuple #[.agg (sv x y), .int .i64 c] := hR ⟨10, .data⟩ (by simp) rfl
      clear hR
      simp only [h7]
      clear h7
      refine if_yes (by kernel_rfl) ?_
      unfold Oper.wp
      go_simp
      exact ⟨.int .i64 c, rfl, HC.out, KeepT.refl _ _ _, rfl⟩
    · clear hR
      refine if_yes (by kernel_rfl) ?_
      unfold Oper.wp
      go_simp
      exact ⟨.pointer (some ⟨w'.heap.size, 0, none⟩), rfl, HC.out.call ((Below.refl _ _).alloc (Nat.le_refl _) _), KeepT.call _ _ ((Below.refl _ _).alloc (Nat.le_refl _) _), ⟨fun _ => ⟨w'.heap.size, rfl, HC.out.2.size, Or.inl (Blk.new w' _ _)⟩, fun h => absurd h (by decide)⟩⟩
    · have h18 : u 18 = .agg (sv x y) := hR ⟨11, .data⟩ (by simp) rfl
      obtain ⟨z, hz, hz2, hz3⟩ := (hR ⟨13, .data⟩ (by simp) rfl).1 rfl
      have hz : u 5 = .pointer (some ⟨z, 0, none⟩) := hz
      clear hR
      simp only [h18]
      clear h18
      refine if_yes (by kernel_rfl) ?_
      simp only [hz]
      have hzz : ∃ cs : Array Value, cs.size = 2 ∧ Blk w' z cs 135 := hz3.elim (fun h => ⟨_, rfl, h⟩) (fun h => ⟨_, rfl, h⟩)
      obtain ⟨cs, hcs, hzb⟩ := hzz
      exact wp_store_row 135 (.tmp 5) (.tmp 18) rfl z (sv x y) rfl rfl 135 cs hzb size_step (by rw [hcs]; rfl) (sv_one _ _) ⟨undef, rfl, CB.put HC.out (HLT.out) hz2, KeepT.put _ _ hzb, ⟨fun h => absurd h (by decide), fun _ => ⟨z, rfl, hz2, hzb.put _⟩⟩⟩
    · have h19 : u 19 = .int .i64 c := hR ⟨12, .data⟩ (by simp) rfl
      clear hR
      simp only [h19]
      clear h19
      refine if_yes (by kernel_rfl) ?_
      unfold Oper.wp
      go_simp
      exact ⟨.int .i64 c, rfl, HC.out, KeepT.refl _ _ _, rfl⟩
  · intro a w' hC hB hR
    have h6 := hR 15 (by decide)
    have h5 := hR 14 (by decide)
    obtain ⟨u, rfl⟩ := hB
    have h6 : u 6 = .int .i64 c := h6
    obtain ⟨z, hz1, _, hz3⟩ := h5.2 rfl
    have hz1 : u 5 = .pointer (some ⟨z, 0, none⟩) := hz1
    simp only [h6, hz1]
    have HZ := Lib.hid hz3
    have HN := Lib.hid (HN1.out.after hC.2)
    have HB3 := Lib.hid (HB1.out.trans (hC.2.mono HB1.out.size))
    clear hR h5 h6 hz1 hz3 hC HC0 HB1 HN1 HLT HW1 HAT
    have heq : ∀ W, Sem.run Tryz.prog (binOp .eql 135 (.agg (sv x y)) (.agg (sv l f))) W = .ok (.bool (sameS x y l f)) W := fun W => eql_step x l y f W
    rcases hc with rfl | rfl
    · go_wp2_with (first
        | (refine wpList_load_row_if (by kernel_rfl) 135 (.tmp 5) rfl z rfl 135 (sv x y) (0, 0) _ HZ.out Tryz.underlying135 rfl size_step ?_)
        | (refine wpList_load_row_if (by kernel_rfl) 135 (.tmp 3) rfl w.heap.size rfl 135 (sv l f) (0, 0) _ HN.out Tryz.underlying135 rfl size_step ?_))
      go_ret
      exact ⟨ret_bool (by simp), HB3.out⟩
    · go_wp2_with fail
      go_ret
      exact ⟨ret_bool (by simp), HB3.out⟩

end Go.Proofs.YtlijndkpgmbapaaGreatDoor

/- Package cell, walked: step, through. -/
namespace Go.Proofs.YtlijndkpgmbapaaGreatDoor
set_option maxRecDepth 100000
open Go.RowKit

/-- only the cell's two blocks turn -/
def FF (o g : Nat) (k : Nat) : Prop := k = o ∨ k = g
theorem LnsAt.set_cell {w : World} {g o : Nat} {ls : List Ln} (h : LnsAt w g ls) (hne : o ≠ g) (i : Nat) (v : Value) : LnsAt (w.setCell ⟨o, i, none⟩ v) g ls := h.keep (Below.heap_setCell _ _ _ _ hne.symm)

/-- a whole row out of a variable, where nothing stirs -/
theorem wpStill_load_row {P : Program} {ops : Array Oper} {rest : List Oper} {o : Oper} {a : Act} {w : World} {Q : Act → Prop} (hgd : o.guard = none) (ty : TypeId) (x : Operand) (ho : o.op = .load ty x)
    (g : Nat) (hx : a.eval x = .pointer (some ⟨g, 0, none⟩)) (t : TypeId) (cs : Array Value) (fr : Nat × Nat) (d : TypeDesc) (hg : w.heap[g]? = some (.cells cs t fr))
    (hu : P.underlying ty = some d) (hd : (match d with | .struct _ | .array _ _ => true | _ => false) = true) (hi : (P.info? ty).map (·.size) = some cs.size)
    (h : wpStill P ops w Q rest (a.put o.dst (.agg cs))) : wpStill P ops w Q (o :: rest) a := by
  unfold wpStill
  rw [if_pos (by simp [Region.wanted, hgd])]
  unfold Oper.still execOp
  simp only [ho, hx, Instr.loadAt, Instr.sureAddr, Sem.run_bind, Sem.run_pure, Result.andThen_ok, run_loadVar_row w g t ty cs fr d hg hu hd hi]
  exact ⟨rfl, h⟩
set_option maxHeartbeats 1000000 in
theorem ce_step1 (o L g cap : Nat) (bl : ByteArray) (m0 : Int) (d sl tl : Nat) (bad torn : Bool) (ls : List Ln) (bp bh bc ba bm i : Nat) (m : Int) (p q r : ByteArray) (x k a b : Int) (whole : Bool) (w : World)
    (hk : Blk w o (cc L g cap bl m0 d sl tl bad torn) 113) (hl : LnsAt w g ls) (hlen : ls.length = L) (hne : o ≠ g) (hi : i < L) (h64 : L ≤ 64) (hd : d ≤ 1000)
    (hbp : Blk w bp (tv3 p q r) 38) (hbh : Blk w bh (fv x k a b) 40) (hbc : w.cell? ⟨bc, 0, none⟩ = some (.pointer (some ⟨o, 0, none⟩))) (hba : w.cell? ⟨ba, 0, none⟩ = some (.int .i64 (i : Int))) (hbm : w.cell? ⟨bm, 0, none⟩ = some (.int .i64 m))
    (n1 : bc ≠ o ∧ bc ≠ g) (n2 : bm ≠ o ∧ bm ≠ g) (hs : p.size ≤ 400 ∧ q.size ≤ 400 ∧ r.size ≤ 400) :
    Calls Tryz.prog 137 #[.bool whole, .pointer (some ⟨bp, 0, none⟩), .pointer (some ⟨bh, 0, none⟩), .pointer (some ⟨bc, 0, none⟩), .pointer (some ⟨ba, 0, none⟩), .pointer (some ⟨bm, 0, none⟩)] w
      fun e w' => e = .returned (.tuple #[]) ∧ Blk w' o (cc L g cap bl m (d + 1) sl tl bad torn) 113 ∧ LnsAt w' g (ls.set i (if whole = true then ⟨p, q, r, false⟩ else hurtL ⟨p, q, r, false⟩ a b)) ∧ Only (FF o g) w w' := by
  obtain ⟨w1, hw1⟩ : ∃ w1, (w.alloc (.cells #[.string ⟨#[]⟩, .string ⟨#[]⟩, .string ⟨#[]⟩, .bool false] 121)).setRow w.heap.size (lv ⟨p, q, r, false⟩) = w1 := ⟨_, rfl⟩
  have hz0 : Blk (w.alloc (.cells #[.string ⟨#[]⟩, .string ⟨#[]⟩, .string ⟨#[]⟩, .bool false] 121)) w.heap.size (lv l0) 121 := Blk.new w _ _
  have hb1 : Below w.heap.size w w1 := by rw [← hw1]; exact below_put (Nat.le_refl _) _ ((Below.refl _ _).alloc (Nat.le_refl _) _)
  have hs1 : w1.heap.size = w.heap.size + 1 := by rw [← hw1, size_setRow, World.size_alloc]
  have hn1 : Blk w1 w.heap.size (lv ⟨p, q, r, false⟩) 121 := by rw [← hw1]; exact hz0.put _
  have hX : ∀ wr, Below w.heap.size w1 wr → Blk wr o (cc L g cap bl m0 d sl tl bad torn) 113 ∧ LnsAt wr g ls ∧ wr.cell? ⟨bc, 0, none⟩ = some (.pointer (some ⟨o, 0, none⟩)) ∧ wr.cell? ⟨ba, 0, none⟩ = some (.int .i64 (i : Int)) ∧ wr.cell? ⟨bm, 0, none⟩ = some (.int .i64 m) ∧ Below w.heap.size w wr := by
    intro wr hb
    have hbb := hb1.trans hb
    exact ⟨hk.after hbb, hl.after hbb, (hbb.cell (p := ⟨bc, 0, none⟩) (cell_lt hbc)).trans hbc, (hbb.cell (p := ⟨ba, 0, none⟩) (cell_lt hba)).trans hba, (hbb.cell (p := ⟨bm, 0, none⟩) (cell_lt hbm)).trans hbm, hbb⟩
  have hh := hbh.after hb1
  have g2 : w1.cell? ⟨bh, 2, none⟩ = some (.int .i64 a) := hh.cell 2
  have g3 : w1.cell? ⟨bh, 3, none⟩ = some (.int .i64 b) := hh.cell 3
  have hlt := hk.lt
  have hglt := hl.lt (by omega)
  have HX := Lib.hid hX
  have HW1 := Lib.hid hw1
  have HZ0 := Lib.hid hz0
  have HN1 := Lib.hid hn1
  have HBP := Lib.hid hbp
  have HNE := Lib.hid hne
  have HLEN := Lib.hid hlen
  have HS := Lib.hid hs
  have HLT := Lib.hid (⟨hlt, hglt⟩ : o < w.heap.size ∧ g < w.heap.size)
  have HN12 := Lib.hid (⟨n1, n2⟩ : (bc ≠ o ∧ bc ≠ g) ∧ (bm ≠ o ∧ bm ≠ g))
  have HSZ : Hid (w.heap.size ≤ w1.heap.size) := hb1.size
  clear hX hw1 hz0 hn1 hbp hb1 hs1 hbh hk hl hlen hne hbc hba hbm hh n1 n2 hs hlt hglt
  cases whole with
  | true =>
    rw [if_pos rfl]
    have hx := HX.out w1 (Below.refl _ _)
    have c0 : w1.cell? ⟨o, 0, none⟩ = some (.slice (some ⟨g, 0, none⟩) L cap) := hx.1.cell 0
    have cb := hx.2.2.1
    have ca := hx.2.2.2.1
    have cm := hx.2.2.2.2.1
    have HR := Lib.hid hx.2.1
    have HK := Lib.hid hx.1
    have HB := Lib.hid hx.2.2.2.2.2
    have HNW := HN1
    clear hx g2 g3
    go_enter Tryz.func137, Tryz.ntmps137
    go_wp2_with (first
      | (refine wpList_load_row rfl 38 (.tmp 1) rfl bp rfl 38 #[.string p, .string q, .string r] (0, 0) _ HBP.out Tryz.underlying38 rfl size_three ?_)
      | (refine wpList_store_row rfl 121 (.tmp 7) (.tmp 9) rfl w.heap.size (lv ⟨p, q, r, false⟩) rfl rfl 121 (lv l0) HZ0.out size_line rfl (lv_one _) ?_; change wpList _ _ _ _ _ ((w.alloc (.cells #[.string ⟨#[]⟩, .string ⟨#[]⟩, .string ⟨#[]⟩, .bool false] 121)).setRow w.heap.size (lv ⟨p, q, r, false⟩)); rw [HW1.out]))
    go_still_tail 7, (by kernel_rfl)
    refine wpStill_load_row rfl 121 (.tmp 7) rfl w.heap.size rfl 121 (lv ⟨p, q, r, false⟩) (0, 0) _ HNW.out Tryz.underlying121 rfl size_line ?_
    repeat still_step
    refine wpStill_nil ?_
    change wpList _ _ _ _ _ w1.drew
    have HT : Hid (w1.drew.there g (i * 4) 4) := (World.there_drew _ _ _ _).2 (HR.out i (by rw [HLEN.out]; exact hi)).2
    obtain ⟨w2, hw2⟩ : ∃ w2, w1.drew.setCells g (i * 4) (lv ⟨p, q, r, false⟩).toList = w2 := ⟨_, rfl⟩
    have hl2 : LnsAt w2 g (ls.set i ⟨p, q, r, false⟩) := by
      rw [← hw2]
      have h2 : LnsAt w1.drew g ls := HR.out.keep rfl
      exact h2.set i _ (by rw [HLEN.out]; exact hi)
    have hk2 : Blk w2 o (cc L g cap bl m0 d sl tl bad torn) 113 := by
      rw [← hw2]
      have h1 := HK.out.drew
      unfold Blk at *
      rw [setCells_heap_ne _ _ HNE.out]
      exact h1
    have ho2 : Only (FF o g) w w2 := by
      rw [← hw2]
      exact Only.setCells g (Or.inr rfl) _ _ _ (Only.of_below (F := FF o g) HB.out).drew
    have e0 : w2.cell? ⟨bc, 0, none⟩ = some (.pointer (some ⟨o, 0, none⟩)) := by
      rw [← hw2, World.cell?_of_block (w := w1.drew) (setCells_heap_ne _ _ HN12.out.1.2 _ _ _)]; exact cb
    have e1 : w2.cell? ⟨bm, 0, none⟩ = some (.int .i64 m) := by
      rw [← hw2, World.cell?_of_block (w := w1.drew) (setCells_heap_ne _ _ HN12.out.2.2 _ _ _)]; exact cm
    have e2 : w2.cell? ⟨o, 2, none⟩ = some (.int .i64 m0) := hk2.cell 2
    have e3 : w2.cell? ⟨o, 3, none⟩ = some (.int .i64 (d : Int)) := hk2.cell 3
    have f2 := hk2.free 2
    have f3 := hk2.free 3
    have n0 := HN12.out.1.1
    have HW2 := Lib.hid hw2
    have HL2 := Lib.hid hl2
    have HK2 := Lib.hid hk2
    have HO2 := Lib.hid ho2
    clear c0 cb ca cm hw2 hl2 hk2 ho2
    go_wp2_with (refine wpList_store_mid rfl 121 (.tmp 24) (.tmp 23) rfl g (i * 4) (lv ⟨p, q, r, false⟩) rfl rfl HT.out size_line (lv_one _) ?_; change wpList _ _ _ _ _ (w1.drew.setCells g (i * 4) (lv ⟨p, q, r, false⟩).toList); rw [HW2.out])
    refine bodyPost_end (results_none rfl _ _ _) rfl ⟨rfl, (HK2.out.set 2 _ rfl).set 3 _ rfl, (HL2.out.set_cell HNE.out 2 _).set_cell HNE.out 3 _, (HO2.out.setCell ⟨o, 2, none⟩ _ (Or.inl rfl)).setCell ⟨o, 3, none⟩ _ (Or.inl rfl)⟩
  | false =>
    rw [if_neg (by simp)]
    go_enter Tryz.func137, Tryz.ntmps137
    go_wp2_with (first
      | (refine wpList_load_row rfl 38 (.tmp 1) rfl bp rfl 38 #[.string p, .string q, .string r] (0, 0) _ HBP.out Tryz.underlying38 rfl size_three ?_)
      | (refine wpList_store_row rfl 121 (.tmp 7) (.tmp 9) rfl w.heap.size (lv ⟨p, q, r, false⟩) rfl rfl 121 (lv l0) HZ0.out size_line rfl (lv_one _) ?_; change wpList _ _ _ _ _ ((w.alloc (.cells #[.string ⟨#[]⟩, .string ⟨#[]⟩, .string ⟨#[]⟩, .bool false] 121)).setRow w.heap.size (lv ⟨p, q, r, false⟩)); rw [HW1.out])
      | (refine wpList_load_row rfl 121 (.tmp 7) rfl w.heap.size rfl 121 (lv ⟨p, q, r, false⟩) (0, 0) _ HN1.out Tryz.underlying121 rfl size_line ?_))
    refine (ce_hurtBy ⟨p, q, r, false⟩ a b _ (fun t => by match t with | 0 => exact HS.out.1 | 1 => exact HS.out.2.1 | _ + 2 => exact HS.out.2.2)).mono ?_
    rintro e w3 ⟨rfl, hb3⟩
    obtain ⟨ln, hln⟩ : ∃ ln, hurtL ⟨p, q, r, false⟩ a b = ln := ⟨_, rfl⟩
    have HLN := Lib.hid hln
    rw [hln]
    have HN3 := Lib.hid (HN1.out.after hb3)
    obtain ⟨w4, hw4⟩ : ∃ w4, w3.setRow w.heap.size (lv ln) = w4 := ⟨_, rfl⟩
    have hb4 : Below w.heap.size w1 w4 := by rw [← hw4]; exact below_put (Nat.le_refl _) _ (hb3.mono HSZ.out)
    have HNW : Hid (Blk w4 w.heap.size (lv ln) 121) := by rw [← hw4]; exact HN3.out.put _
    have HW4 := Lib.hid hw4
    have hx := HX.out w4 hb4
    have c0 : w4.cell? ⟨o, 0, none⟩ = some (.slice (some ⟨g, 0, none⟩) L cap) := hx.1.cell 0
    have cb := hx.2.2.1
    have ca := hx.2.2.2.1
    have cm := hx.2.2.2.2.1
    have HR := Lib.hid hx.2.1
    have HK := Lib.hid hx.1
    have HB := Lib.hid hx.2.2.2.2.2
    clear hx hln hb3 hw4 hb4 g2 g3
    go_wp2_with (refine wpList_store_row rfl 121 (.tmp 7) (.tmp 17) rfl w.heap.size (lv ln) rfl rfl 121 (lv ⟨p, q, r, false⟩) HN3.out size_line rfl (lv_one _) ?_; change wpList _ _ _ _ _ (w3.setRow w.heap.size (lv ln)); rw [HW4.out])
    go_still_tail 7, (by kernel_rfl)
    refine wpStill_load_row rfl 121 (.tmp 7) rfl w.heap.size rfl 121 (lv ln) (0, 0) _ HNW.out Tryz.underlying121 rfl size_line ?_
    repeat still_step
    refine wpStill_nil ?_
    change wpList _ _ _ _ _ w4.drew
    have HT : Hid (w4.drew.there g (i * 4) 4) := (World.there_drew _ _ _ _).2 (HR.out i (by rw [HLEN.out]; exact hi)).2
    obtain ⟨w2, hw2⟩ : ∃ w2, w4.drew.setCells g (i * 4) (lv ln).toList = w2 := ⟨_, rfl⟩
    have hl2 : LnsAt w2 g (ls.set i ln) := by
      rw [← hw2]
      have h2 : LnsAt w4.drew g ls := HR.out.keep rfl
      exact h2.set i _ (by rw [HLEN.out]; exact hi)
    have hk2 : Blk w2 o (cc L g cap bl m0 d sl tl bad torn) 113 := by
      rw [← hw2]
      have h1 := HK.out.drew
      unfold Blk at *
      rw [setCells_heap_ne _ _ HNE.out]
      exact h1
    have ho2 : Only (FF o g) w w2 := by
      rw [← hw2]
      exact Only.setCells g (Or.inr rfl) _ _ _ (Only.of_below (F := FF o g) HB.out).drew
    have e0 : w2.cell? ⟨bc, 0, none⟩ = some (.pointer (some ⟨o, 0, none⟩)) := by
      rw [← hw2, World.cell?_of_block (w := w4.drew) (setCells_heap_ne _ _ HN12.out.1.2 _ _ _)]; exact cb
    have e1 : w2.cell? ⟨bm, 0, none⟩ = some (.int .i64 m) := by
      rw [← hw2, World.cell?_of_block (w := w4.drew) (setCells_heap_ne _ _ HN12.out.2.2 _ _ _)]; exact cm
    have e2 : w2.cell? ⟨o, 2, none⟩ = some (.int .i64 m0) := hk2.cell 2
    have e3 : w2.cell? ⟨o, 3, none⟩ = some (.int .i64 (d : Int)) := hk2.cell 3
    have f2 := hk2.free 2
    have f3 := hk2.free 3
    have n0 := HN12.out.1.1
    have HW2 := Lib.hid hw2
    have HL2 := Lib.hid hl2
    have HK2 := Lib.hid hk2
    have HO2 := Lib.hid ho2
    clear c0 cb ca cm hw2 hl2 hk2 ho2
    go_wp2_with (refine wpList_store_mid rfl 121 (.tmp 24) (.tmp 23) rfl g (i * 4) (lv ln) rfl rfl HT.out size_line (lv_one _) ?_; change wpList _ _ _ _ _ (w4.drew.setCells g (i * 4) (lv ln).toList); rw [HW2.out])
    refine bodyPost_end (results_none rfl _ _ _) rfl ⟨rfl, (HK2.out.set 2 _ rfl).set 3 _ rfl, by rw [HLN.out]; exact (HL2.out.set_cell HNE.out 2 _).set_cell HNE.out 3 _, (HO2.out.setCell ⟨o, 2, none⟩ _ (Or.inl rfl)).setCell ⟨o, 3, none⟩ _ (Or.inl rfl)⟩

/-- through answers a closure over two new blocks -/
theorem ce_through (o : Nat) (x k a b : Int) (w : World) : Calls Tryz.prog 101 #[.pointer (some ⟨o, 0, none⟩), .agg (fv x k a b)] w
    fun e w' => e = .returned (.func (.func 140) #[] #[.pointer (some ⟨w.heap.size + 1, 0, none⟩), .pointer (some ⟨w.heap.size, 0, none⟩)]) ∧ w' = (w.alloc (.cells #[.pointer (some ⟨o, 0, none⟩)] 69)).alloc (.cells (fv x k a b) 40) := by
  go_enter Tryz.func101, Tryz.ntmps101
  unfold fv
  go_wp2_with fail
  go_ret
  exact ⟨rfl, rfl⟩
/-- how an act ends -/
def endW (o : Nat) (k : Int) (w : World) : World := if k = 1 then w.setCell ⟨o, 7, none⟩ (.bool true) else if k = 2 then w.setCell ⟨o, 6, none⟩ (.bool true) else w
theorem ce_thru_step (bh bc o : Nat) (x k a b : Int) (b1 b2 b3 b4 b5 : Nat) (w : World) (R : World → Prop) (hh : Blk w bh (fv x k a b) 40)
    (hdo : Calls Tryz.prog 137 (#[.bool (!hurtsB k)] ++ #[.pointer (some ⟨b1, 0, none⟩), .pointer (some ⟨b2, 0, none⟩), .pointer (some ⟨b3, 0, none⟩), .pointer (some ⟨b4, 0, none⟩), .pointer (some ⟨b5, 0, none⟩)]) w fun e w' => e = .returned (.tuple #[]) ∧ R w')
    (hR : ∀ w', R w' → w'.cell? ⟨bc, 0, none⟩ = some (.pointer (some ⟨o, 0, none⟩)) ∧ ∃ cs : Array Value, cs.size = 8 ∧ Blk w' o cs 113) :
    Calls Tryz.prog 140 #[.func (.func 137) #[] #[.pointer (some ⟨b1, 0, none⟩), .pointer (some ⟨b2, 0, none⟩), .pointer (some ⟨b3, 0, none⟩), .pointer (some ⟨b4, 0, none⟩), .pointer (some ⟨b5, 0, none⟩)], .pointer (some ⟨bh, 0, none⟩), .pointer (some ⟨bc, 0, none⟩)] w fun e w' => e = .returned (.int .i64 (endC k)) ∧ ∃ w1, R w1 ∧ w' = endW o k w1 := by
  have c1 : w.cell? ⟨bh, 1, none⟩ = some (.int .i64 k) := hh.cell 1
  have HR := Lib.hid hR
  clear hh hR
  by_cases h1 : k = 1
  · subst h1
    have HD : Hid (Calls Tryz.prog 137 (#[.bool false] ++ #[.pointer (some ⟨b1, 0, none⟩), .pointer (some ⟨b2, 0, none⟩), .pointer (some ⟨b3, 0, none⟩), .pointer (some ⟨b4, 0, none⟩), .pointer (some ⟨b5, 0, none⟩)]) w fun e w' => e = .returned (.tuple #[]) ∧ R w') := hdo
    clear hdo
    go_enter Tryz.func140, Tryz.ntmps140
    go_wp2_with fail
    refine HD.out.mono ?_
    rintro e w1 ⟨rfl, hr⟩
    obtain ⟨hc, cs, hz, hk⟩ := HR.out w1 hr
    have c7 : w1.cell? ⟨o, 7, none⟩ = some cs[7] := (hk.cell 7).trans (Array.getElem?_eq_getElem (by omega))
    have f7 := hk.free 7
    obtain ⟨v, hv⟩ : ∃ v, cs[7] = v := ⟨_, rfl⟩
    rw [hv] at c7
    have HRR := Lib.hid hr
    clear hr hk hz hv HD
    go_wp2_with fail
    go_ret
    exact ⟨rfl, w1, HRR.out, rfl⟩
  · by_cases h2 : k = 2
    · subst h2
      have HD : Hid (Calls Tryz.prog 137 (#[.bool false] ++ #[.pointer (some ⟨b1, 0, none⟩), .pointer (some ⟨b2, 0, none⟩), .pointer (some ⟨b3, 0, none⟩), .pointer (some ⟨b4, 0, none⟩), .pointer (some ⟨b5, 0, none⟩)]) w fun e w' => e = .returned (.tuple #[]) ∧ R w') := hdo
      clear hdo
      go_enter Tryz.func140, Tryz.ntmps140
      go_wp2_with fail
      refine HD.out.mono ?_
      rintro e w1 ⟨rfl, hr⟩
      obtain ⟨hc, cs, hz, hk⟩ := HR.out w1 hr
      have c6 : w1.cell? ⟨o, 6, none⟩ = some cs[6] := (hk.cell 6).trans (Array.getElem?_eq_getElem (by omega))
      have f6 := hk.free 6
      obtain ⟨v, hv⟩ : ∃ v, cs[6] = v := ⟨_, rfl⟩
      rw [hv] at c6
      have HRR := Lib.hid hr
      clear hr hk hz hv HD
      go_wp2_with fail
      go_ret
      exact ⟨rfl, w1, HRR.out, rfl⟩
    · have hhb : hurtsB k = false := by simp [hurtsB, h1, h2]
      have HD : Hid (Calls Tryz.prog 137 (#[.bool true] ++ #[.pointer (some ⟨b1, 0, none⟩), .pointer (some ⟨b2, 0, none⟩), .pointer (some ⟨b3, 0, none⟩), .pointer (some ⟨b4, 0, none⟩), .pointer (some ⟨b5, 0, none⟩)]) w fun e w' => e = .returned (.tuple #[]) ∧ R w') := by rw [hhb] at hdo; exact hdo
      have he : endC k = 0 := by unfold endC; rw [if_neg h1, if_neg h2]
      have HE := Lib.hid he
      have HW : Hid (∀ w1, endW o k w1 = w1) := fun w1 => by unfold endW; rw [if_neg h1, if_neg h2]
      have k1 : (k == 1) = false := by simpa using h1
      have k2 : (k == 2) = false := by simpa using h2
      rw [HE.out]
      clear hdo hhb HR he
      go_enter Tryz.func140, Tryz.ntmps140
      go_wp2_with fail
      refine HD.out.mono ?_
      rintro e w1 ⟨rfl, hr⟩
      have HRR := Lib.hid hr
      clear hr HD
      go_wp2_with fail
      go_ret
      exact ⟨rfl, w1, HRR.out, (HW.out w1).symm⟩
theorem ce_thru_erase (bh bc o : Nat) (x k a b : Int) (b1 b2 : Nat) (w : World) (R : World → Prop) (hh : Blk w bh (fv x k a b) 40)
    (hdo : Calls Tryz.prog 102 (#[.bool (!hurtsB k)] ++ #[.pointer (some ⟨b1, 0, none⟩), .pointer (some ⟨b2, 0, none⟩)]) w fun e w' => e = .returned (.tuple #[]) ∧ R w')
    (hR : ∀ w', R w' → w'.cell? ⟨bc, 0, none⟩ = some (.pointer (some ⟨o, 0, none⟩)) ∧ ∃ cs : Array Value, cs.size = 8 ∧ Blk w' o cs 113) :
    Calls Tryz.prog 140 #[.func (.func 102) #[] #[.pointer (some ⟨b1, 0, none⟩), .pointer (some ⟨b2, 0, none⟩)], .pointer (some ⟨bh, 0, none⟩), .pointer (some ⟨bc, 0, none⟩)] w fun e w' => e = .returned (.int .i64 (endC k)) ∧ ∃ w1, R w1 ∧ w' = endW o k w1 := by
  have c1 : w.cell? ⟨bh, 1, none⟩ = some (.int .i64 k) := hh.cell 1
  have HR := Lib.hid hR
  clear hh hR
  by_cases h1 : k = 1
  · subst h1
    have HD : Hid (Calls Tryz.prog 102 (#[.bool false] ++ #[.pointer (some ⟨b1, 0, none⟩), .pointer (some ⟨b2, 0, none⟩)]) w fun e w' => e = .returned (.tuple #[]) ∧ R w') := hdo
    clear hdo
    go_enter Tryz.func140, Tryz.ntmps140
    go_wp2_with fail
    refine HD.out.mono ?_
    rintro e w1 ⟨rfl, hr⟩
    obtain ⟨hc, cs, hz, hk⟩ := HR.out w1 hr
    have c7 : w1.cell? ⟨o, 7, none⟩ = some cs[7] := (hk.cell 7).trans (Array.getElem?_eq_getElem (by omega))
    have f7 := hk.free 7
    obtain ⟨v, hv⟩ : ∃ v, cs[7] = v := ⟨_, rfl⟩
    rw [hv] at c7
    have HRR := Lib.hid hr
    clear hr hk hz hv HD
    go_wp2_with fail
    go_ret
    exact ⟨rfl, w1, HRR.out, rfl⟩
  · by_cases h2 : k = 2
    · subst h2
      have HD : Hid (Calls Tryz.prog 102 (#[.bool false] ++ #[.pointer (some ⟨b1, 0, none⟩), .pointer (some ⟨b2, 0, none⟩)]) w fun e w' => e = .returned (.tuple #[]) ∧ R w') := hdo
      clear hdo
      go_enter Tryz.func140, Tryz.ntmps140
      go_wp2_with fail
      refine HD.out.mono ?_
      rintro e w1 ⟨rfl, hr⟩
      obtain ⟨hc, cs, hz, hk⟩ := HR.out w1 hr
      have c6 : w1.cell? ⟨o, 6, none⟩ = some cs[6] := (hk.cell 6).trans (Array.getElem?_eq_getElem (by omega))
      have f6 := hk.free 6
      obtain ⟨v, hv⟩ : ∃ v, cs[6] = v := ⟨_, rfl⟩
      rw [hv] at c6
      have HRR := Lib.hid hr
      clear hr hk hz hv HD
      go_wp2_with fail
      go_ret
      exact ⟨rfl, w1, HRR.out, rfl⟩
    · have hhb : hurtsB k = false := by simp [hurtsB, h1, h2]
      have HD : Hid (Calls Tryz.prog 102 (#[.bool true] ++ #[.pointer (some ⟨b1, 0, none⟩), .pointer (some ⟨b2, 0, none⟩)]) w fun e w' => e = .returned (.tuple #[]) ∧ R w') := by rw [hhb] at hdo; exact hdo
      have he : endC k = 0 := by unfold endC; rw [if_neg h1, if_neg h2]
      have HE := Lib.hid he
      have HW : Hid (∀ w1, endW o k w1 = w1) := fun w1 => by unfold endW; rw [if_neg h1, if_neg h2]
      have k1 : (k == 1) = false := by simpa using h1
      have k2 : (k == 2) = false := by simpa using h2
      rw [HE.out]
      clear hdo hhb HR he
      go_enter Tryz.func140, Tryz.ntmps140
      go_wp2_with fail
      refine HD.out.mono ?_
      rintro e w1 ⟨rfl, hr⟩
      have HRR := Lib.hid hr
      clear hr HD
      go_wp2_with fail
      go_ret
      exact ⟨rfl, w1, HRR.out, (HW.out w1).symm⟩

end Go.Proofs.YtlijndkpgmbapaaGreatDoor

/- Package cell, walked: step whole. -/
namespace Go.Proofs.YtlijndkpgmbapaaGreatDoor
set_option maxRecDepth 100000
open Go.RowKit

theorem Only.cell {F : Nat → Prop} {w w' : World} {p : Addr} {v : Value} (ho : Only F w w') (h : w.cell? p = some v) (hn : ¬ F p.block) : w'.cell? p = some v :=
  (World.cell?_of_block (w := w) (ho.block p.block (cell_lt h) hn)).trans h
theorem below_5 (w : World) (A B C D E : Obj) : Below w.heap.size w (((((w.alloc A).alloc B).alloc C).alloc D).alloc E) := (below_4 w A B C D).alloc (by simp; omega) _
theorem blk_5 (w : World) (A B C D E : Obj) (j : Nat) (hj : j < 5) (cs : Array Value) (t : TypeId) (h : [A, B, C, D, E][j]? = some (.cells cs t (0, 0))) : Blk (((((w.alloc A).alloc B).alloc C).alloc D).alloc E) (w.heap.size + j) cs t := by
  match j, hj with
  | 0, _ => obtain rfl : A = .cells cs t (0, 0) := Option.some.inj h; exact ((((Blk.new w cs t).alloc _).alloc _).alloc _).alloc _
  | 1, _ => obtain rfl : B = .cells cs t (0, 0) := Option.some.inj h; exact (((blk_mid w A C cs t)).alloc _).alloc _
  | 2, _ => obtain rfl : C = .cells cs t (0, 0) := Option.some.inj h; exact ((blk_third w A B cs t).alloc _).alloc _
  | 3, _ => obtain rfl : D = .cells cs t (0, 0) := Option.some.inj h; exact (blk_4d w A B C cs t).alloc _
  | 4, _ =>
    obtain rfl : E = .cells cs t (0, 0) := Option.some.inj h
    have h := Blk.new ((((w.alloc A).alloc B).alloc C).alloc D) cs t
    rwa [World.size_alloc, World.size_alloc, World.size_alloc, World.size_alloc] at h

set_option maxHeartbeats 1000000 in
theorem ce_step (o L g cap : Nat) (bl : ByteArray) (m0 : Int) (d sl tl : Nat) (ls : List Ln) (i : Nat) (m : Int) (p q r : ByteArray) (x k a b : Int) (w : World)
    (hk : Blk w o (cc L g cap bl m0 d sl tl false false) 113) (hl : LnsAt w g ls) (hlen : ls.length = L) (hne : o ≠ g) (hi : i < L) (h64 : L ≤ 64) (hd : d ≤ 1000) (hs : p.size ≤ 400 ∧ q.size ≤ 400 ∧ r.size ≤ 400) :
    Calls Tryz.prog 93 #[.pointer (some ⟨o, 0, none⟩), .int .i64 m, .int .i64 (i : Int), .agg (tv3 p q r), .agg (fv x k a b)] w
      fun e w' => e = .returned (.int .i64 (endC k)) ∧ Blk w' o (cc L g cap bl m (d + 1) sl tl (k == 2) (k == 1)) 113 ∧ LnsAt w' g (ls.set i (stepL p q r k a b)) ∧ Only (FF o g) w w' := by
  obtain ⟨w5, hw5⟩ : ∃ w5, ((((w.alloc (.cells #[.pointer (some ⟨o, 0, none⟩)] 69)).alloc (.cells #[.int .i64 m] 3)).alloc (.cells #[.int .i64 (i : Int)] 3)).alloc (.cells (tv3 p q r) 38)).alloc (.cells (fv x k a b) 40) = w5 := ⟨_, rfl⟩
  have hb5 : Below w.heap.size w w5 := by rw [← hw5]; exact below_5 _ _ _ _ _ _
  have hs5 : w5.heap.size = w.heap.size + 5 := by rw [← hw5]; simp only [World.size_alloc]
  have k0 : Blk w5 w.heap.size #[.pointer (some ⟨o, 0, none⟩)] 69 := by rw [← hw5]; exact blk_5 _ _ _ _ _ _ 0 (by decide) _ _ rfl
  have k1 : Blk w5 (w.heap.size + 1) #[.int .i64 m] 3 := by rw [← hw5]; exact blk_5 _ _ _ _ _ _ 1 (by decide) _ _ rfl
  have k2 : Blk w5 (w.heap.size + 2) #[.int .i64 (i : Int)] 3 := by rw [← hw5]; exact blk_5 _ _ _ _ _ _ 2 (by decide) _ _ rfl
  have k3 : Blk w5 (w.heap.size + 3) (tv3 p q r) 38 := by rw [← hw5]; exact blk_5 _ _ _ _ _ _ 3 (by decide) _ _ rfl
  have k4 : Blk w5 (w.heap.size + 4) (fv x k a b) 40 := by rw [← hw5]; exact blk_5 _ _ _ _ _ _ 4 (by decide) _ _ rfl
  obtain ⟨w7, hw7⟩ : ∃ w7, (w5.alloc (.cells #[.pointer (some ⟨o, 0, none⟩)] 69)).alloc (.cells (fv x k a b) 40) = w7 := ⟨_, rfl⟩
  have hb7 : Below w5.heap.size w5 w7 := by rw [← hw7]; exact ((Below.refl _ _).alloc (Nat.le_refl _) _).alloc (by simp) _
  have k5 : Blk w7 w5.heap.size #[.pointer (some ⟨o, 0, none⟩)] 69 := by rw [← hw7]; exact (Blk.new w5 _ _).alloc _
  have k6 : Blk w7 (w5.heap.size + 1) (fv x k a b) 40 := by
    rw [← hw7]
    have h := Blk.new (w5.alloc (.cells #[.pointer (some ⟨o, 0, none⟩)] 69)) (fv x k a b) 40
    rwa [World.size_alloc] at h
  have hbb := hb5.trans (hb7.mono hb5.size)
  have hol := hk.lt
  have hgl := hl.lt (by omega)
  have hdo := ce_step1 o L g cap bl m0 d sl tl false false ls (w.heap.size + 3) (w.heap.size + 4) w.heap.size (w.heap.size + 2) (w.heap.size + 1) i m p q r x k a b (!hurtsB k) w7
    (hk.after hbb) (hl.after hbb) hlen hne hi h64 hd (k3.after hb7) (k4.after hb7) ((k0.after hb7).cell 0) ((k2.after hb7).cell 0) ((k1.after hb7).cell 0) ⟨by omega, by omega⟩ ⟨by omega, by omega⟩ hs
  have hst : (if (!hurtsB k) = true then ⟨p, q, r, false⟩ else hurtL ⟨p, q, r, false⟩ a b) = stepL p q r k a b := by
    unfold stepL hurtL
    cases hurtsB k <;> rfl
  rw [hst] at hdo
  obtain ⟨R, hR⟩ : ∃ R : World → Prop, R = fun w' => Blk w' o (cc L g cap bl m (d + 1) sl tl false false) 113 ∧ LnsAt w' g (ls.set i (stepL p q r k a b)) ∧ Only (FF o g) w7 w' := ⟨_, rfl⟩
  have hdo2 : Calls Tryz.prog 137 (#[.bool (!hurtsB k)] ++ #[.pointer (some ⟨w.heap.size + 3, 0, none⟩), .pointer (some ⟨w.heap.size + 4, 0, none⟩), .pointer (some ⟨w.heap.size, 0, none⟩), .pointer (some ⟨w.heap.size + 2, 0, none⟩), .pointer (some ⟨w.heap.size + 1, 0, none⟩)]) w7 fun e w' => e = .returned (.tuple #[]) ∧ R w' := by
    rw [hR]; exact hdo
  have hRR : ∀ w', R w' → w'.cell? ⟨w5.heap.size, 0, none⟩ = some (.pointer (some ⟨o, 0, none⟩)) ∧ ∃ cs : Array Value, cs.size = 8 ∧ Blk w' o cs 113 := by
    intro w' h
    rw [hR] at h
    exact ⟨h.2.2.cell (k5.cell 0) (fun hf => by
      have hf2 : w5.heap.size = o ∨ w5.heap.size = g := hf
      omega), _, rfl, h.1⟩
  have HTH := Lib.hid (ce_thru_step (w5.heap.size + 1) w5.heap.size o x k a b (w.heap.size + 3) (w.heap.size + 4) w.heap.size (w.heap.size + 2) (w.heap.size + 1) w7 R k6 hdo2 hRR)
  have HK4 := Lib.hid k4
  have HW5 := Lib.hid hw5
  have HW7 := Lib.hid hw7
  have HBB := Lib.hid hbb
  have HR := Lib.hid hR
  have HNE := Lib.hid hne
  clear hk hl hlen hne hb5 hs5 k0 k1 k2 k3 k4 hb7 k5 k6 hbb hol hgl hdo hst hR hdo2 hRR hw5 hw7 hs hi
  go_enter Tryz.func93, Tryz.ntmps93
  go_wp2_with (first
    | (change wpList _ _ _ _ _ (((((w.alloc (.cells #[.pointer (some ⟨o, 0, none⟩)] 69)).alloc (.cells #[.int .i64 m] 3)).alloc (.cells #[.int .i64 (i : Int)] 3)).alloc (.cells (tv3 p q r) 38)).alloc (.cells (fv x k a b) 40)); rw [HW5.out]; refine wpList_load_row rfl 40 (.tmp 9) rfl (w.heap.size + 4) rfl 40 (fv x k a b) (0, 0) _ HK4.out Tryz.underlying40 rfl size_fault ?_))
  refine (ce_through o x k a b _).mono ?_
  rintro e w6 ⟨rfl, rfl⟩
  rw [HW7.out]
  go_wp2_with fail
  refine HTH.out.mono ?_
  rintro e w8 ⟨rfl, w9, hr, rfl⟩
  rw [HR.out] at hr
  have HRR := Lib.hid hr
  clear hr HTH
  go_wp2_with fail
  go_ret
  refine ⟨rfl, ?_⟩
  obtain ⟨r1, r2, r3⟩ := HRR.out
  have ro : Only (FF o g) w w9 := (Only.of_below (F := FF o g) HBB.out).trans r3 (fun k hk => Or.inl hk)
  unfold endW
  by_cases h1 : k = 1
  · subst h1
    rw [if_pos rfl]
    exact ⟨r1.set 7 _ rfl, r2.set_cell HNE.out 7 _, ro.setCell ⟨o, 7, none⟩ _ (Or.inl rfl)⟩
  · rw [if_neg h1]
    have e1 : (k == 1) = false := by simpa using h1
    by_cases h2 : k = 2
    · subst h2
      rw [if_pos rfl]
      exact ⟨r1.set 6 _ rfl, r2.set_cell HNE.out 6 _, ro.setCell ⟨o, 6, none⟩ _ (Or.inl rfl)⟩
    · rw [if_neg h2]
      have e2 : (k == 2) = false := by simpa using h2
      rw [e1, e2]
      exact ⟨r1, r2, ro⟩

end Go.Proofs.YtlijndkpgmbapaaGreatDoor

/- Package cell, walked: Program. -/
namespace Go.Proofs.YtlijndkpgmbapaaGreatDoor
set_option maxRecDepth 100000
open Go.RowKit

/-- the code's cell lies at o, its lines ls at g, and is s -/
structure CodeAt (w : World) (o g cap : Nat) (s : St) (ls : List Ln) : Prop where
  ne : o ≠ g
  pos : 0 < s.L
  cell : Blk w o (cc s.L g cap (blankS s.Y) s.mode s.done s.slc s.tlc s.bad s.torn) 113
  rows : LnsAt w g ls
  abs : AbsC s ls
theorem CodeAt.lt {w : World} {o g cap : Nat} {s : St} {ls : List Ln} (h : CodeAt w o g cap s ls) : o < w.heap.size ∧ g < w.heap.size := ⟨h.cell.lt, h.rows.lt (by rw [h.abs.len]; exact h.pos)⟩
theorem CodeAt.after {w w' : World} {o g cap : Nat} {s : St} {ls : List Ln} (h : CodeAt w o g cap s ls) (hb : Below w.heap.size w w') : CodeAt w' o g cap s ls := ⟨h.ne, h.pos, h.cell.after hb, h.rows.after hb, h.abs⟩
theorem blank_raw (y : Nat) : (blankS y).size = rawOf y := by
  rw [blankS_size]; unfold rawOf; omega
theorem bad_size (s : St) (p : ByteArray) : badSize (blankS s.Y) p = !takesB s p := by
  unfold badSize takesB
  rw [blank_raw]
  rfl
theorem takesA_one {s : St} (hw : WfSt s) (p : ByteArray) : takesA s.mode 1 s.bad s.torn (blankS s.Y) [p] = true ↔ (s.bad = false ∧ s.torn = false ∧ s.mode ≠ 2 ∧ takesB s p = true) := by
  unfold takesA
  simp only [List.any_cons, List.any_nil, bad_size, Bool.or_false, Bool.not_not, Bool.and_eq_true, Bool.or_eq_true, beq_iff_eq, Bool.not_eq_true', and_assoc]
  have hm := hw.mode
  constructor
  · rintro ⟨h1, h2, h3, h4⟩; exact ⟨h1, h2, by omega, h4⟩
  · rintro ⟨h1, h2, h3, h4⟩; exact ⟨h1, h2, by omega, h4⟩
theorem takesA_three {s : St} (hw : WfSt s) (p q r : ByteArray) : takesA s.mode 2 s.bad s.torn (blankS s.Y) [p, q, r] = true ↔ (s.bad = false ∧ s.torn = false ∧ s.mode ≠ 1 ∧ takesB s p = true ∧ takesB s q = true ∧ takesB s r = true) := by
  unfold takesA
  simp only [List.any_cons, List.any_nil, bad_size, Bool.or_false, Bool.not_or, Bool.not_not, Bool.and_eq_true, Bool.or_eq_true, beq_iff_eq, Bool.not_eq_true', and_assoc]
  have hm := hw.mode
  constructor
  · rintro ⟨h1, h2, h3, h4⟩; exact ⟨h1, h2, by omega, h4⟩
  · rintro ⟨h1, h2, h3, h4⟩; exact ⟨h1, h2, by omega, h4⟩
theorem endSt_flags {s : St} (k : Int) (hb : s.bad = false) (ht : s.torn = false) : (endSt s k).bad = (k == 2) ∧ (endSt s k).torn = (k == 1) ∧ (endSt s k).slc = s.slc ∧ (endSt s k).tlc = s.tlc := by
  unfold endSt
  by_cases h1 : k = 1
  · subst h1; rw [if_pos rfl]; exact ⟨hb, rfl, rfl, rfl⟩
  · rw [if_neg h1]
    have e1 : (k == 1) = false := by simpa using h1
    by_cases h2 : k = 2
    · subst h2; rw [if_pos rfl]; exact ⟨rfl, ht, rfl, rfl⟩
    · rw [if_neg h2]
      have e2 : (k == 2) = false := by simpa using h2
      rw [e1, e2]; exact ⟨hb, ht, rfl, rfl⟩
/-- a cell that is written -/
theorem CodeAt.of_end {w : World} {o g cap k' : Nat} {s t : St} {ls : List Ln} {m k : Int} (hne : o ≠ g) (hp : 0 < s.L) (hk : Blk w o (cc s.L g cap (blankS s.Y) m k' s.slc s.tlc (k == 2) (k == 1)) 113) (hl : LnsAt w g ls)
    (h1 : t.L = s.L) (h2 : t.Y = s.Y) (h3 : t.mode = m) (h4 : t.done = k') (h5 : t.slc = s.slc) (h6 : t.tlc = s.tlc) (h7 : t.bad = false) (h8 : t.torn = false) (ha : AbsC (endSt t k) ls) : CodeAt w o g cap (endSt t k) ls := by
  have e := end_same t k
  have f := endSt_flags k h7 h8
  refine ⟨hne, by rw [e.1, h1]; exact hp, ?_, hl, ha⟩
  rw [e.1, e.2.1, e.2.2.1, e.2.2.2, f.1, f.2.1, f.2.2.1, f.2.2.2, h1, h2, h3, h4, h5, h6]
  exact hk
theorem one_at {w : World} {b : Nat} {p : ByteArray} (h : w.cell? ⟨b, 0, none⟩ = some (.string p)) : ∀ j, j < [p].length → w.cell? ⟨b, j, none⟩ = some (.string ([p].getD j ByteArray.empty)) := by
  intro j hj
  obtain rfl : j = 0 := by simpa using hj
  exact h
def ActR (o g cap : Nat) (s' : St) (v : Value) (w : World) (e : Ending) (w' : World) : Prop := e = .returned v ∧ (∃ ls, CodeAt w' o g cap s' ls) ∧ Only (FF o g) w w'

set_option maxHeartbeats 1000000 in
theorem ce_prog_no (o g cap : Nat) (s : St) (ls : List Ln) (line : Int) (p : ByteArray) (x k a b : Int) (w : World) (hw : WfSt s) (hc : CodeAt w o g cap s ls) (hno : ¬ ProgOk s line p) :
    Calls Tryz.prog 49 #[.pointer (some ⟨o, 0, none⟩), .int .i64 line, .string p, .agg (fv x k a b)] w (ActR o g cap (progSt s line p k a b) (.int .i64 (progC s line p k)) w) := by
  have hpc : progSt s line p k a b = s ∧ progC s line p k = 80 := by unfold progSt progC; rw [if_neg hno, if_neg hno]; exact ⟨rfl, rfl⟩
  rw [hpc.1, hpc.2]
  have hT := takesA_one hw p
  obtain ⟨w2, hw2⟩ : ∃ w2, (w.alloc (.cells (fv x k a b) 40)).alloc (.cells #[.string p] 9) = w2 := ⟨_, rfl⟩
  have hb2 : Below w.heap.size w w2 := by rw [← hw2]; exact ((Below.refl _ _).alloc (Nat.le_refl _) _).alloc (by simp) _
  have kp : w2.cell? ⟨w.heap.size + 1, 0, none⟩ = some (.string p) := by
    rw [← hw2]
    have h := (Blk.new (w.alloc (.cells (fv x k a b) 40)) #[.string p] 9).cell 0
    rw [World.size_alloc] at h
    exact h
  have htk := ce_takes o s.L g cap (blankS s.Y) s.mode s.done s.slc s.tlc s.bad s.torn 1 [p] (w.heap.size + 1) 1 w2 (hc.cell.after hb2) (Nat.le_of_ble_eq_true rfl) (one_at kp) hw.mode (Or.inl rfl)
  have HTK := Lib.hid htk
  have HB2 := Lib.hid hb2
  have HW2 := Lib.hid hw2
  have HC := Lib.hid hc
  have HNO := Lib.hid hno
  have HWF := Lib.hid hw
  obtain ⟨T, hTT⟩ : ∃ T, takesA s.mode 1 s.bad s.torn (blankS s.Y) [p] = T := ⟨_, rfl⟩
  rw [hTT] at hT HTK
  have HT := Lib.hid hT
  have hL := hw.l64
  have hD := hw.done
  clear hpc hT hw2 hb2 kp htk hc hno hw hTT
  cases T with
  | false =>
    go_enter Tryz.func49, Tryz.ntmps49
    go_wp2_with fail
    rw [HW2.out]
    refine HTK.out.mono ?_
    rintro e w3 ⟨rfl, hb3⟩
    have HB3 := Lib.hid (HB2.out.trans (hb3.mono HB2.out.size))
    clear hb3 HTK
    go_wp2_with fail
    go_ret
    exact ⟨rfl, ⟨ls, HC.out.after HB3.out⟩, Only.of_below HB3.out⟩
  | true =>
    have hT4 := HT.out.1 rfl
    by_cases hld : line = (s.done : Int)
    · have hge : ¬ line < (s.L : Int) := fun hlt => HNO.out ⟨hT4.1, hT4.2.1, hT4.2.2.1, hld, hlt, hT4.2.2.2⟩
      subst hld
      clear hT4 HT HNO
      go_enter Tryz.func49, Tryz.ntmps49
      go_wp2_with fail
      rw [HW2.out]
      refine HTK.out.mono ?_
      rintro e w3 ⟨rfl, hb3⟩
      have hb33 := HB2.out.trans (hb3.mono HB2.out.size)
      have hc3 := HC.out.after hb33
      have c0 : w3.cell? ⟨o, 0, none⟩ = some (.slice (some ⟨g, 0, none⟩) s.L cap) := hc3.cell.cell 0
      have c3 : w3.cell? ⟨o, 3, none⟩ = some (.int .i64 (s.done : Int)) := hc3.cell.cell 3
      have HC3 := Lib.hid hc3
      have HB3 := Lib.hid hb33
      clear hb3 HTK hc3 hb33
      go_wp2_with fail
      go_ret
      exact ⟨rfl, ⟨ls, HC3.out⟩, Only.of_below HB3.out⟩
    · have hbq : (line == (s.done : Int)) = false := by simpa using hld
      clear hT4 HT HNO
      go_enter Tryz.func49, Tryz.ntmps49
      go_wp2_with fail
      rw [HW2.out]
      refine HTK.out.mono ?_
      rintro e w3 ⟨rfl, hb3⟩
      have hb33 := HB2.out.trans (hb3.mono HB2.out.size)
      have hc3 := HC.out.after hb33
      have c3 : w3.cell? ⟨o, 3, none⟩ = some (.int .i64 (s.done : Int)) := hc3.cell.cell 3
      have HC3 := Lib.hid hc3
      have HB3 := Lib.hid hb33
      clear hb3 HTK hc3 hb33
      go_wp2_with fail
      go_ret
      exact ⟨rfl, ⟨ls, HC3.out⟩, Only.of_below HB3.out⟩

set_option maxHeartbeats 1000000 in
theorem ce_prog_yes (o g cap : Nat) (s : St) (ls : List Ln) (line : Int) (p : ByteArray) (x k a b : Int) (w : World) (hw : WfSt s) (hc : CodeAt w o g cap s ls) (hp : p.size ≤ 400) (hok : ProgOk s line p) :
    Calls Tryz.prog 49 #[.pointer (some ⟨o, 0, none⟩), .int .i64 line, .string p, .agg (fv x k a b)] w (ActR o g cap (progSt s line p k a b) (.int .i64 (progC s line p k)) w) := by
  have hpc : progC s line p k = endC k := by unfold progC; rw [if_pos hok]
  rw [hpc]
  have hab := hc.abs.prog hw hok k a b
  have hps : progSt s line p k a b = endSt (putSt (stepSt s 1) (3 * line.toNat) (pageT p k a b) (hurtsB k)) k := by unfold progSt; rw [if_pos hok]
  have hT := (takesA_one hw p).2 ⟨hok.1, hok.2.1, hok.2.2.1, hok.2.2.2.2.2⟩
  obtain ⟨k1, k2, k3, k4, k5, k6⟩ := hok
  have hk8 : ∀ w', Blk w' o (cc s.L g cap (blankS s.Y) 1 (s.done + 1) s.slc s.tlc (k == 2) (k == 1)) 113 → LnsAt w' g (ls.set s.done (stepL p ⟨#[]⟩ ⟨#[]⟩ k a b)) → CodeAt w' o g cap (progSt s line p k a b) (ls.set line.toNat (stepL p ByteArray.empty ByteArray.empty k a b)) := by
    intro w' h1 h2
    have e : line.toNat = s.done := by omega
    rw [hps] at hab ⊢
    rw [e] at hab ⊢
    exact CodeAt.of_end (t := putSt (stepSt s 1) (3 * s.done) (pageT p k a b) (hurtsB k)) hc.ne hc.pos h1 h2 rfl rfl rfl rfl rfl rfl k1 k2 hab
  have HK8 := Lib.hid hk8
  subst k4
  obtain ⟨w2, hw2⟩ : ∃ w2, (w.alloc (.cells (fv x k a b) 40)).alloc (.cells #[.string p] 9) = w2 := ⟨_, rfl⟩
  have hb2 : Below w.heap.size w w2 := by rw [← hw2]; exact ((Below.refl _ _).alloc (Nat.le_refl _) _).alloc (by simp) _
  have kp : w2.cell? ⟨w.heap.size + 1, 0, none⟩ = some (.string p) := by
    rw [← hw2]
    have h := (Blk.new (w.alloc (.cells (fv x k a b) 40)) #[.string p] 9).cell 0
    rw [World.size_alloc] at h
    exact h
  have kh : Blk w2 w.heap.size (fv x k a b) 40 := by rw [← hw2]; exact (Blk.new w _ _).alloc _
  have htk := ce_takes o s.L g cap (blankS s.Y) s.mode s.done s.slc s.tlc s.bad s.torn 1 [p] (w.heap.size + 1) 1 w2 (hc.cell.after hb2) (Nat.le_of_ble_eq_true rfl) (one_at kp) hw.mode (Or.inl rfl)
  rw [hT] at htk
  have HTK := Lib.hid htk
  have HB2 := Lib.hid hb2
  have HW2 := Lib.hid hw2
  have HC := Lib.hid hc
  have HWF := Lib.hid hw
  have HKH := Lib.hid kh
  have HF := Lib.hid (⟨k1, k2⟩ : s.bad = false ∧ s.torn = false)
  have hL := hw.l64
  have hD := hw.done
  clear hpc hT hw2 hb2 kp htk hc hw kh k1 k2 k3 k6 hab hps hk8
  go_enter Tryz.func49, Tryz.ntmps49
  go_wp2_with fail
  rw [HW2.out]
  refine HTK.out.mono ?_
  rintro e w3 ⟨rfl, hb3⟩
  have hb33 := HB2.out.trans (hb3.mono HB2.out.size)
  have hc3 := HC.out.after hb33
  have c0 : w3.cell? ⟨o, 0, none⟩ = some (.slice (some ⟨g, 0, none⟩) s.L cap) := hc3.cell.cell 0
  have c3 : w3.cell? ⟨o, 3, none⟩ = some (.int .i64 (s.done : Int)) := hc3.cell.cell 3
  have HC3 := Lib.hid hc3
  have HB3 := Lib.hid hb33
  have HK3 := Lib.hid (HKH.out.after hb3)
  clear hb3 HTK hc3 hb33
  go_wp2_with (refine wpList_load_row rfl 40 (.tmp 7) rfl w.heap.size rfl 40 (fv x k a b) (0, 0) _ HK3.out Tryz.underlying40 rfl size_fault ?_)
  have hc3 := HC3.out
  have hcell := hc3.cell
  rw [HF.out.1, HF.out.2] at hcell
  refine (ce_step o s.L g cap (blankS s.Y) s.mode s.done s.slc s.tlc ls s.done 1 p ⟨#[]⟩ ⟨#[]⟩ x k a b _ hcell hc3.rows (hc3.abs.len) hc3.ne (by omega) hL (by omega) ⟨hp, by decide, by decide⟩).mono ?_
  rintro e w4 ⟨rfl, h1, h2, h3⟩
  have HR := Lib.hid (HK8.out w4 h1 h2)
  have HO := Lib.hid ((Only.of_below (F := FF o g) HB3.out).trans h3 (fun k hk => Or.inl hk))
  clear hc3 hcell h1 h2 h3
  go_wp2_with fail
  go_ret
  exact ⟨rfl, ⟨_, HR.out⟩, HO.out⟩
theorem ce_program (o g cap : Nat) (s : St) (ls : List Ln) (line : Int) (p : ByteArray) (x k a b : Int) (w : World) (hw : WfSt s) (hc : CodeAt w o g cap s ls) (hp : p.size ≤ 400) :
    Calls Tryz.prog 49 #[.pointer (some ⟨o, 0, none⟩), .int .i64 line, .string p, .agg (fv x k a b)] w (ActR o g cap (progSt s line p k a b) (.int .i64 (progC s line p k)) w) := by
  by_cases hok : ProgOk s line p
  · exact ce_prog_yes o g cap s ls line p x k a b w hw hc hp hok
  · exact ce_prog_no o g cap s ls line p x k a b w hw hc hok

end Go.Proofs.YtlijndkpgmbapaaGreatDoor
