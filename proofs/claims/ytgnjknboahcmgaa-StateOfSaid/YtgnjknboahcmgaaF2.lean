/- Texts of one claim, merged: GeR1, GeR2, Inv6, GeRC, GeR6, SnR1, SnR2, SnM2. -/
import Derived.Test.YtgnjknboahcmgaaF1

/- The reference of layer 6, walked: Most, Snaps, Check. -/
namespace Go.Proofs.Ytgnjknboahcmgaa
set_option maxRecDepth 100000
open Go.RowKit

theorem rge_most (b l y n s r : Int) (w : World) (h : PreG b l y n s r) :
    Calls Try.prog 43 #[.agg (gv b l y n s r)] w fun e w' => e = .returned (.int .i64 (mostG b l s)) ∧ Below w.heap.size w w' := by
  have hm := pre_most h
  obtain ⟨h1, h2, h3, h4, h5, h6, h7, h8, h9, h10, h11, h12, h13, h14⟩ := h
  have hq : (3 * l * (b - s - 6)).tdiv 2 = mostG b l s := by unfold mostG; exact Int.tdiv_eq_ediv_of_nonneg hm.1
  have hbd : 0 ≤ mostG b l s ∧ mostG b l s ≤ 6000 := by unfold mostG; omega
  obtain ⟨m, hme⟩ : ∃ m, mostG b l s = m := ⟨_, rfl⟩
  rw [hme] at hq hbd ⊢
  clear hme
  unfold gv
  go_enter Try.func43, Try.ntmps43
  go_wp2_with fail
  go_ret
  exact ⟨rfl, (Below.refl _ _).alloc (Nat.le_refl _) _⟩

set_option maxRecDepth 100000 in
theorem rge_snaps (b l y n s r : Int) (w : World) (h : PreG b l y n s r) :
    Calls Try.prog 44 #[.agg (gv b l y n s r)] w fun e w' => e = .returned (.int .i64 (snapsG b y n)) ∧ Below w.heap.size w w' := by
  have hbd := snaps_bd h
  obtain ⟨h1, h2, h3, h4, h5, h6, h7, h8, h9, h10, h11, h12, h13, h14⟩ := h
  have hit := fun k : Int => snaps_iff (b := b) (y := y) (n := n) (by omega) k
  obtain ⟨m, hme⟩ : ∃ m, snapsG b y n = m := ⟨_, rfl⟩
  rw [hme] at hbd ⊢
  have HIT : Hid (∀ k : Int, k * y < 6 * n + 10 * b ↔ k < m) := by intro k; rw [← hme]; exact hit k
  clear hme hit
  have hB := (Below.refl w.heap.size w).alloc (Nat.le_refl _) (.cells (gv b l y n s r) 23)
  have HB := Lib.hid hB
  clear hB
  unfold gv
  go_enter Try.func44, Try.ntmps44
  go_wp2_with fail
  go_loop [3] (fun i => ∃ k : Nat, (k : Int) ≤ m ∧ i = .int .i64 k) (fun i => (m.toNat - (intOf i).toNat))
  case atStart => exact ⟨0, by omega, rfl⟩
  case round =>
    obtain ⟨k, hk, rfl⟩ := hrel
    have hp := mul_bd (a := (k : Int)) (c := y) (A := 1600) (C := 256) (by omega) (by omega) (by omega) (by omega)
    have hi := HIT.out k
    by_cases hlt : (k : Int) < m
    · have hc := hi.2 hlt
      clear hi
      go_wp2_with fail
      go_round
      case rel => exact ⟨k + 1, by omega, by go_num⟩
      case measure => simp [intOf]; omega
    · have hc : ¬ (k : Int) * y < 6 * n + 10 * b := fun h => hlt (hi.1 h)
      clear hi
      go_wp2_with fail
      go_ret
      exact ⟨ret_int (by omega), HB.out⟩

end Go.Proofs.Ytgnjknboahcmgaa

/- The reference of layer 6, walked: Check. -/
namespace Go.Proofs.Ytgnjknboahcmgaa
set_option maxRecDepth 100000
open Go.RowKit

def FirstG (b l y : Int) : Prop := 8 ≤ b ∧ b ≤ 64 ∧ 6 ≤ l ∧ l ≤ 64 ∧ 16 ≤ y ∧ y ≤ 256 ∧ y % 8 = 0
def ChkT (b l y n s r : Int) (w : World) (e : Ending) (w' : World) : Prop := e = .returned (.int .i64 (chkG b l y n s r)) ∧ Below w.heap.size w w'
theorem chk_no {b l y n s r : Int} (h : ¬ OkG b l y n s r) : chkG b l y n s r = 60 := if_neg h
theorem chk_ok {b l y n s r : Int} (h : OkG b l y n s r) : chkG b l y n s r = 0 := if_pos h

set_option maxRecDepth 100000 in
theorem rge_check_first (b l y n s r : Int) (w : World) (h : ¬ FirstG b l y) : Calls Try.prog 26 #[.agg (gv b l y n s r)] w (ChkT b l y n s r w) := by
  have hno : ¬ OkG b l y n s r := fun ⟨⟨h1, h2, h3, h4, h5, h6, h7, _⟩, _⟩ => h ⟨h1, h2, h3, h4, h5, h6, h7⟩
  unfold ChkT
  rw [chk_no hno]
  have H := Lib.hid h
  clear h hno
  have HB := Lib.hid ((Below.refl w.heap.size w).alloc (Nat.le_refl _) (.cells (gv b l y n s r) 23))
  unfold gv at *
  go_enter Try.func26, Try.ntmps26
  go_wp2_with fail
  all_goals first
    | (go_ret; exact ⟨rfl, HB.out⟩)
    | (exfalso; apply H.out; have hc := ‹_ ∧ (y % 8 != 0) = false›; simp only [bne_eq_false_iff_eq] at hc; unfold FirstG; omega)

end Go.Proofs.Ytgnjknboahcmgaa

/- Drawn regions in long frames: the frame told by what it differs in from the one with which the region began. -/
namespace Go.Proofs.Ytgnjknboahcmgaa
open Go.RowKit

/-- a frame that differs from A in the slots from lo to hi alone -/
structure Near (A : Act) (lo hi : Nat) (a : Act) : Prop where
  size : a.tmps.size = A.tmps.size
  defers : a.defers = A.defers
  slot : ∀ j, ¬ (lo ≤ j ∧ j ≤ hi) → a.tmps.getD j undef = A.tmps.getD j undef
theorem Near.refl (A : Act) (lo hi : Nat) : Near A lo hi A := ⟨rfl, rfl, fun _ _ => rfl⟩
theorem Near.put {A a : Act} {lo hi d : Nat} {v : Value} (h : Near A lo hi a) (h1 : lo ≤ d) (h2 : d ≤ hi) : Near A lo hi (a.put (some d) v) :=
  ⟨by simp [Act.put, h.size], h.defers, fun j hj => by
    have hne : d ≠ j := fun e => hj (e ▸ ⟨h1, h2⟩)
    rw [← h.slot j hj]
    simp [Act.put, Array.getD_eq_getD_getElem?, Array.getElem?_setIfInBounds_ne hne]⟩
theorem put_at {t : Array Value} {d : Nat} {v : Value} (hs : d < t.size) : (t.setIfInBounds d v).getD d undef = v := by simp [Array.getD_eq_getD_getElem?, hs]
/-- a guard, read off the frame -/
theorem wanted_at {o : Oper} {ops : Array Oper} {tmps : Array Value} {j d : Nat} {b c : Bool} (hg : o.guard = some (j, c)) (ho : (ops[j]?).bind (·.dst) = some d) (hs : d < tmps.size) (h : tmps.getD d undef = .bool b) (hb : b = c) :
    Region.wanted o (yielded ops tmps) = true := by
  subst hb
  have e : tmps[d]? = some (.bool b) := by
    rw [Array.getD_eq_getD_getElem?] at h
    rw [Array.getElem?_eq_getElem hs] at h ⊢
    simpa using h
  unfold Region.wanted yielded
  rw [hg]
  simp [ho, e]
theorem unwanted_at {o : Oper} {ops : Array Oper} {tmps : Array Value} {j d : Nat} {b c : Bool} (hg : o.guard = some (j, c)) (ho : (ops[j]?).bind (·.dst) = some d) (hs : d < tmps.size) (h : tmps.getD d undef = .bool b) (hb : b ≠ c) :
    Region.wanted o (yielded ops tmps) = false := by
  have e : tmps[d]? = some (.bool b) := by
    rw [Array.getD_eq_getD_getElem?] at h
    rw [Array.getElem?_eq_getElem hs] at h ⊢
    simpa using h
  unfold Region.wanted yielded
  rw [hg]
  simp [ho, e, hb]
/-- what a guarded operation leaves -/
def gd (q : Bool) (v : Value) : Value := match q with
  | true => undef
  | false => v
/-- the frame is A, with what the slots hold laid into it -/
theorem Near.puts {A a : Act} {lo hi : Nat} (n : Nat) (hn : lo + n ≤ A.tmps.size) (h : Near A lo hi a) (hh : hi + 1 = lo + n) :
    a = ⟨(A.tmps.toList.take lo ++ (List.range n).map (fun j => a.tmps.getD (lo + j) undef) ++ A.tmps.toList.drop (lo + n)).toArray, A.defers⟩ := by
  obtain ⟨at', ad⟩ := a
  obtain ⟨⟨Al⟩, Ad⟩ := A
  have hd : ad = Ad := h.defers
  subst hd
  have hsz : at'.size = Al.length := h.size
  have hn' : lo + n ≤ Al.length := hn
  show (⟨at', ad⟩ : Act) = ⟨(Al.take lo ++ (List.range n).map (fun j => at'.getD (lo + j) undef) ++ Al.drop (lo + n)).toArray, ad⟩
  congr 1
  apply Array.ext_getElem?
  intro j
  have e2 : ∀ l : List Value, (l.toArray)[j]? = l[j]? := fun l => by simp
  refine Eq.trans ?_ (e2 _).symm
  have hslot : ¬ (lo ≤ j ∧ j ≤ hi) → j < Al.length → at'[j]? = Al[j]? := fun hj hs => by
    have hslot : at'.getD j undef = (⟨Al⟩ : Array Value).getD j undef := h.slot j hj
    rw [Array.getD_eq_getD_getElem?, Array.getD_eq_getD_getElem?, Array.getElem?_eq_getElem (by omega), Array.getElem?_eq_getElem (show j < (⟨Al⟩ : Array Value).size from hs)] at hslot
    rw [Array.getElem?_eq_getElem (by omega), List.getElem?_eq_getElem hs]
    simpa using hslot
  have hl1 : (Al.take lo).length = lo := by rw [List.length_take]; omega
  have hl2 : (Al.take lo ++ (List.range n).map (fun j => at'.getD (lo + j) undef)).length = lo + n := by rw [List.length_append, hl1, List.length_map, List.length_range]
  rcases Nat.lt_or_ge j (lo + n) with h1 | h1
  · rw [List.getElem?_append_left (by omega)]
    rcases Nat.lt_or_ge j lo with h2 | h2
    · rw [List.getElem?_append_left (by omega), List.getElem?_take_of_lt h2]
      exact hslot (by omega) (by omega)
    · rw [List.getElem?_append_right (by omega), hl1, List.getElem?_map, List.getElem?_range (by omega), Option.map_some, show lo + (j - lo) = j by omega, Array.getD_eq_getD_getElem?, Array.getElem?_eq_getElem (by omega)]
      rfl
  · rw [List.getElem?_append_right (by omega), hl2, List.getElem?_drop, show lo + n + (j - (lo + n)) = j by omega]
    rcases Nat.lt_or_ge j Al.length with h2 | h2
    · exact hslot (by omega) h2
    · rw [Array.getElem?_eq_none (by omega), List.getElem?_eq_none h2]

end Go.Proofs.Ytgnjknboahcmgaa

/- The reference of layer 6, walked: Check behind its first conditions: by the truth of each of the others. -/
namespace Go.Proofs.Ytgnjknboahcmgaa
set_option maxRecDepth 100000
open Go.RowKit

theorem size_geo : (Try.prog.info? 23).map (·.size) = some 6 := by kernel_rfl
/-- the world while Check goes on: the geometry's block, and what is below -/
def CG (w0 : World) (b l y n s r : Int) (w : World) : Prop := Blk w w0.heap.size (gv b l y n s r) 23 ∧ Below w0.heap.size w0 w
theorem CG.call {w0 w w' : World} {b l y n s r : Int} (h : CG w0 b l y n s r w) (hb : Below w.heap.size w w') : CG w0 b l y n s r w' := ⟨h.1.after hb, h.2.trans (hb.mono h.2.size)⟩
theorem CG.drew {w0 w : World} {b l y n s r : Int} (h : CG w0 b l y n s r w) : CG w0 b l y n s r w.drew := h.call (Below.refl _ _).drew
theorem no_special6 {T : World → World → Prop} : ∀ (j : Nat) (a a' : Act) (w w' : World), (fun (_ : Nat) (_ : Act) (_ : World) => False) j a w → (∀ d ∈ ([] : List Tmp), a'.tmps.getD d undef = a.tmps.getD d undef) → T w w' → (fun (_ : Nat) (_ : Act) (_ : World) => False) j a' w' := fun _ _ _ _ _ h _ _ => h

/-- what each operation of the second condition leaves -/
def vsGC (B : Nat) (b l y n s r m k : Int) (p0 p1 p2 p3 p4 p5 p6 p7 p8 q1 q2 q3 q4 q5 q6 q7 q8 : Bool) : List (Option (Tmp × Value)) :=
  [some (37, .pointer (some ⟨B, 4, none⟩)), some (38, .int .i64 s), some (39, .bool p0), some (40, .bool p0), some (41, gd p0 (.pointer (some ⟨B, 4, none⟩))), some (42, gd p0 (.int .i64 s)), some (43, gd p0 (.bool p1)), some (44, .bool q1), some (45, .bool q1), some (46, gd q1 (.pointer (some ⟨B, 4, none⟩))), some (47, gd q1 (.int .i64 s)), some (48, gd q1 (.pointer (some ⟨B, 0, none⟩))), some (49, gd q1 (.int .i64 b)), some (50, gd q1 (.int .i64 (b - 8))), some (51, gd q1 (.bool p2)), some (52, .bool q2), some (53, .bool q2), some (54, gd q2 (.pointer (some ⟨B, 5, none⟩))), some (55, gd q2 (.int .i64 r)), some (56, gd q2 (.bool p3)), some (57, .bool q3), some (58, .bool q3), some (59, gd q3 (.pointer (some ⟨B, 5, none⟩))), some (60, gd q3 (.int .i64 r)), some (61, gd q3 (.bool p4)), some (62, .bool q4), some (63, .bool q4), some (64, gd q4 (.pointer (some ⟨B, 3, none⟩))), some (65, gd q4 (.int .i64 n)), some (66, gd q4 (.bool p5)), some (67, .bool q5), some (68, .bool q5), some (69, gd q5 (.pointer (some ⟨B, 3, none⟩))), some (70, gd q5 (.int .i64 n)), some (71, gd q5 (.bool p6)), some (72, .bool q6), some (73, .bool q6), some (74, gd q6 (.pointer (some ⟨B, 3, none⟩))), some (75, gd q6 (.int .i64 n)), some (76, gd q6 (.agg (gv b l y n s r))), some (77, gd q6 (.int .i64 m)), some (78, gd q6 (.bool p7)), some (79, .bool q7), some (80, .bool q7), some (81, gd q7 (.agg (gv b l y n s r))), some (82, gd q7 (.int .i64 k)), some (83, gd q7 (.pointer (some ⟨B, 1, none⟩))), some (84, gd q7 (.int .i64 l)), some (85, gd q7 (.int .i64 (l - 4))), some (86, gd q7 (.bool p8)), some (87, .bool q8)]

set_option maxHeartbeats 4000000 in
theorem rge_check_rest (b l y n s r : Int) (w : World) (h : FirstG b l y) : Calls Try.prog 26 #[.agg (gv b l y n s r)] w (ChkT b l y n s r w) := by
  obtain ⟨m, hm⟩ : ∃ m, mostG b l s = m := ⟨_, rfl⟩
  obtain ⟨k, hk⟩ : ∃ k, snapsG b y n = k := ⟨_, rfl⟩
  obtain ⟨p0, e0⟩ : ∃ p, decide (s < 0) = p := ⟨_, rfl⟩
  obtain ⟨p1, e1⟩ : ∃ p, decide (16 < s) = p := ⟨_, rfl⟩
  obtain ⟨p2, e2⟩ : ∃ p, decide (b - 8 < s) = p := ⟨_, rfl⟩
  obtain ⟨p3, e3⟩ : ∃ p, decide (r < 2) = p := ⟨_, rfl⟩
  obtain ⟨p4, e4⟩ : ∃ p, decide (1000 < r) = p := ⟨_, rfl⟩
  obtain ⟨p5, e5⟩ : ∃ p, decide (n < 1) = p := ⟨_, rfl⟩
  obtain ⟨p6, e6⟩ : ∃ p, decide (4096 < n) = p := ⟨_, rfl⟩
  obtain ⟨p7, e7⟩ : ∃ p, decide (m < n) = p := ⟨_, rfl⟩
  obtain ⟨p8, e8⟩ : ∃ p, decide (l - 4 < k) = p := ⟨_, rfl⟩
  obtain ⟨q1, f1⟩ : ∃ q, (p0 || p1) = q := ⟨_, rfl⟩
  obtain ⟨q2, f2⟩ : ∃ q, (q1 || p2) = q := ⟨_, rfl⟩
  obtain ⟨q3, f3⟩ : ∃ q, (q2 || p3) = q := ⟨_, rfl⟩
  obtain ⟨q4, f4⟩ : ∃ q, (q3 || p4) = q := ⟨_, rfl⟩
  obtain ⟨q5, f5⟩ : ∃ q, (q4 || p5) = q := ⟨_, rfl⟩
  obtain ⟨q6, f6⟩ : ∃ q, (q5 || p6) = q := ⟨_, rfl⟩
  obtain ⟨q7, f7⟩ : ∃ q, (q6 || p7) = q := ⟨_, rfl⟩
  obtain ⟨q8, f8⟩ : ∃ q, (q7 || p8) = q := ⟨_, rfl⟩
  have hq6 : q6 = false → PreG b l y n s r := by
    rw [← f6, ← f5, ← f4, ← f3, ← f2, ← f1, ← e0, ← e1, ← e2, ← e3, ← e4, ← e5, ← e6]
    simp only [Bool.or_eq_false_iff, decide_eq_false_iff_not]
    intro hh
    unfold FirstG at h
    unfold PreG
    omega
  have hq7 : q7 = false → PreG b l y n s r := fun hh => hq6 (by rw [← f7] at hh; exact (Bool.or_eq_false_iff.1 hh).1)
  have hq8 : chkG b l y n s r = if q8 = true then 60 else 0 := by
    have hok : OkG b l y n s r ↔ ¬ q8 = true := by
      unfold OkG
      rw [hm, hk, ← f8, ← f7, ← f6, ← f5, ← f4, ← f3, ← f2, ← f1, ← e0, ← e1, ← e2, ← e3, ← e4, ← e5, ← e6, ← e7, ← e8]
      simp only [Bool.or_eq_true, decide_eq_true_eq]
      unfold FirstG at h
      unfold PreG
      omega
    by_cases hx : q8 = true
    · rw [if_pos hx, chk_no (fun hh => hok.1 hh hx)]
    · rw [if_neg hx, chk_ok (hok.2 hx)]
  have P0 := Lib.hid e0
  have P1 := Lib.hid e1
  have P2 := Lib.hid e2
  have P3 := Lib.hid e3
  have P4 := Lib.hid e4
  have P5 := Lib.hid e5
  have P6 := Lib.hid e6
  have P7 := Lib.hid e7
  have P8 := Lib.hid e8
  have Q1 := Lib.hid f1
  have Q2 := Lib.hid f2
  have Q3 := Lib.hid f3
  have Q4 := Lib.hid f4
  have Q5 := Lib.hid f5
  have Q6 := Lib.hid f6
  have Q7 := Lib.hid f7
  have Q8 := Lib.hid f8
  have HM := Lib.hid hm
  have HK := Lib.hid hk
  have HQ6 := Lib.hid hq6
  have HQ7 := Lib.hid hq7
  have HQ8 := Lib.hid hq8
  obtain ⟨h1, h2, h3, h4, h5, h6, h7⟩ := h
  have hw8 : IntKind.i64.wrap (b - 8) = b - 8 := by rw [IntKind.wrap_i64]; omega
  have hw4 : IntKind.i64.wrap (l - 4) = l - 4 := by rw [IntKind.wrap_i64]; omega
  have HW8 := Lib.hid hw8
  have HW4 := Lib.hid hw4
  have HC0 : Hid (CG w b l y n s r (w.alloc (.cells (gv b l y n s r) 23))) := ⟨Blk.new w _ _, (Below.refl w.heap.size w).alloc (Nat.le_refl _) _⟩
  clear hm hk hq6 hq7 hq8 hw8 hw4 e0 e1 e2 e3 e4 e5 e6 e7 e8 f1 f2 f3 f4 f5 f6 f7 f8
  unfold ChkT
  go_enter Try.func26, Try.ntmps26
  unfold gv
  go_wp2_with fail
  rename_i K0 hK0
  generalize hA : (⟨_, _⟩ : Act) = A
  have HA := Lib.hid hA
  have HSZ : Hid (A.tmps.size = 88) := by rw [← hA]; rfl
  have HX1 : Hid (A.tmps.getD 1 undef = .pointer (some ⟨w.heap.size, 0, none⟩)) := by rw [← hA]; rfl
  clear hA
  refine wp_region_list3 (SV (vsGC w.heap.size b l y n s r m k p0 p1 p2 p3 p4 p5 p6 p7 p8 q1 q2 q3 q4 q5 q6 q7 q8) []) (Near A 37 87) (CG w b l y n s r) Goes (RV (vsGC w.heap.size b l y n s r m k p0 p1 p2 p3 p4 p5 p6 p7 p8 q1 q2 q3 q4 q5 q6 q7 q8) (fun _ _ _ => False)) rfl (by kernel_rfl) (RV.ext no_special6) ?_ HC0.out.drew (Near.refl A _ _) ?_ ?_
  · exact ⟨fun _ _ h => h.put (by decide) (by decide), fun _ _ h => h.put (by decide) (by decide), fun _ _ h => h.put (by decide) (by decide), fun _ _ h => h.put (by decide) (by decide), fun _ _ h => h.put (by decide) (by decide), fun _ _ h => h.put (by decide) (by decide), fun _ _ h => h.put (by decide) (by decide), fun _ _ h => h.put (by decide) (by decide), fun _ _ h => h.put (by decide) (by decide), fun _ _ h => h.put (by decide) (by decide), fun _ _ h => h.put (by decide) (by decide), fun _ _ h => h.put (by decide) (by decide), fun _ _ h => h.put (by decide) (by decide), fun _ _ h => h.put (by decide) (by decide), fun _ _ h => h.put (by decide) (by decide), fun _ _ h => h.put (by decide) (by decide), fun _ _ h => h.put (by decide) (by decide), fun _ _ h => h.put (by decide) (by decide), fun _ _ h => h.put (by decide) (by decide), fun _ _ h => h.put (by decide) (by decide), fun _ _ h => h.put (by decide) (by decide), fun _ _ h => h.put (by decide) (by decide), fun _ _ h => h.put (by decide) (by decide), fun _ _ h => h.put (by decide) (by decide), fun _ _ h => h.put (by decide) (by decide), fun _ _ h => h.put (by decide) (by decide), fun _ _ h => h.put (by decide) (by decide), fun _ _ h => h.put (by decide) (by decide), fun _ _ h => h.put (by decide) (by decide), fun _ _ h => h.put (by decide) (by decide), fun _ _ h => h.put (by decide) (by decide), fun _ _ h => h.put (by decide) (by decide), fun _ _ h => h.put (by decide) (by decide), fun _ _ h => h.put (by decide) (by decide), fun _ _ h => h.put (by decide) (by decide), fun _ _ h => h.put (by decide) (by decide), fun _ _ h => h.put (by decide) (by decide), fun _ _ h => h.put (by decide) (by decide), fun _ _ h => h.put (by decide) (by decide), fun _ _ h => h.put (by decide) (by decide), fun _ _ h => h.put (by decide) (by decide), fun _ _ h => h.put (by decide) (by decide), fun _ _ h => h.put (by decide) (by decide), fun _ _ h => h.put (by decide) (by decide), fun _ _ h => h.put (by decide) (by decide), fun _ _ h => h.put (by decide) (by decide), fun _ _ h => h.put (by decide) (by decide), fun _ _ h => h.put (by decide) (by decide), fun _ _ h => h.put (by decide) (by decide), fun _ _ h => h.put (by decide) (by decide), fun _ _ h => h.put (by decide) (by decide), trivial⟩
  · refine ⟨?_, ?_, ?_, ?_, ?_, ?_, ?_, ?_, ?_, ?_, ?_, ?_, ?_, ?_, ?_, ?_, ?_, ?_, ?_, ?_, ?_, ?_, ?_, ?_, ?_, ?_, ?_, ?_, ?_, ?_, ?_, ?_, ?_, ?_, ?_, ?_, ?_, ?_, ?_, ?_, ?_, ?_, ?_, ?_, ?_, ?_, ?_, ?_, ?_, ?_, ?_, trivial⟩
    all_goals
      intro a w' hC hB hR
      have HC := Lib.hid hC
      clear hC
      clear hK0
      have SZ : ∀ d, d < 88 → d < a.tmps.size := fun d hd => by rw [hB.size, HSZ.out]; exact hd
    · have e1 : a.tmps.getD 1 undef = .pointer (some ⟨w.heap.size, 0, none⟩) := (hB.slot 1 (by decide)).trans HX1.out
      clear hR
      refine if_yes rfl ?_
      unfold Oper.wp
      go_simp
      exact ⟨.pointer (some ⟨w.heap.size, 4, none⟩), rfl, HC.out, Below.refl _ _, put_at (SZ 37 (by decide))⟩
    · have h37 : a.tmps.getD 37 undef = .pointer (some ⟨w.heap.size, 4, none⟩) := hR ⟨0, .data⟩ (by simp) rfl
      have hc : w'.cell? ⟨w.heap.size, 4, none⟩ = some (.int .i64 s) := HC.out.1.cell 4
      clear hR
      refine if_yes rfl ?_
      unfold Oper.wp
      go_simp
      exact ⟨.int .i64 s, rfl, HC.out, Below.refl _ _, put_at (SZ 38 (by decide))⟩
    · have h38 : a.tmps.getD 38 undef = .int .i64 s := hR ⟨1, .data⟩ (by simp) rfl
      clear hR
      refine if_yes rfl ?_
      unfold Oper.wp
      go_simp
      exact ⟨_, rfl, HC.out, Below.refl _ _, (put_at (SZ 39 (by decide))).trans (congrArg Value.bool (by first | exact P0.out | (rw [← P0.out]; first | rfl | (simp; done) | (simp; omega))))⟩
    · have h39 : a.tmps.getD 39 undef = .bool p0 := hR ⟨2, .data⟩ (by simp) rfl
      clear hR
      refine if_yes rfl ?_
      unfold Oper.wp
      go_simp
      exact ⟨.bool p0, rfl, HC.out, Below.refl _ _, put_at (SZ 40 (by decide))⟩
    · have g : a.tmps.getD 40 undef = .bool p0 := hR ⟨3, .guard⟩ (by simp) rfl
      cases p0
      · have e1 : a.tmps.getD 1 undef = .pointer (some ⟨w.heap.size, 0, none⟩) := (hB.slot 1 (by decide)).trans HX1.out
        clear hR
        refine if_yes (wanted_at rfl (by kernel_rfl) (SZ 40 (by decide)) g rfl) ?_
        unfold Oper.wp
        go_simp
        exact ⟨.pointer (some ⟨w.heap.size, 4, none⟩), rfl, HC.out, Below.refl _ _, put_at (SZ 41 (by decide))⟩
      · clear hR
        refine if_no (unwanted_at rfl (by kernel_rfl) (SZ 40 (by decide)) g (by decide)) ?_
        exact ⟨undef, rfl, HC.out, Below.refl _ _, put_at (SZ 41 (by decide))⟩
    · have g : a.tmps.getD 40 undef = .bool p0 := hR ⟨3, .guard⟩ (by simp) rfl
      cases p0
      · have h41 : a.tmps.getD 41 undef = .pointer (some ⟨w.heap.size, 4, none⟩) := hR ⟨4, .data⟩ (by simp) rfl
        have hc : w'.cell? ⟨w.heap.size, 4, none⟩ = some (.int .i64 s) := HC.out.1.cell 4
        clear hR
        refine if_yes (wanted_at rfl (by kernel_rfl) (SZ 40 (by decide)) g rfl) ?_
        unfold Oper.wp
        go_simp
        exact ⟨.int .i64 s, rfl, HC.out, Below.refl _ _, put_at (SZ 42 (by decide))⟩
      · clear hR
        refine if_no (unwanted_at rfl (by kernel_rfl) (SZ 40 (by decide)) g (by decide)) ?_
        exact ⟨undef, rfl, HC.out, Below.refl _ _, put_at (SZ 42 (by decide))⟩
    · have g : a.tmps.getD 40 undef = .bool p0 := hR ⟨3, .guard⟩ (by simp) rfl
      cases p0
      · have h42 : a.tmps.getD 42 undef = .int .i64 s := hR ⟨5, .data⟩ (by simp) rfl
        clear hR
        refine if_yes (wanted_at rfl (by kernel_rfl) (SZ 40 (by decide)) g rfl) ?_
        unfold Oper.wp
        go_simp
        exact ⟨_, rfl, HC.out, Below.refl _ _, (put_at (SZ 43 (by decide))).trans (congrArg Value.bool (by first | exact P1.out | (rw [← P1.out]; first | rfl | (simp; done) | (simp; omega))))⟩
      · clear hR
        refine if_no (unwanted_at rfl (by kernel_rfl) (SZ 40 (by decide)) g (by decide)) ?_
        exact ⟨undef, rfl, HC.out, Below.refl _ _, put_at (SZ 43 (by decide))⟩
    · have h40 : a.tmps.getD 40 undef = .bool p0 := hR ⟨3, .data⟩ (by simp) rfl
      cases p0
      · have h43 : a.tmps.getD 43 undef = .bool p1 := hR ⟨6, .data⟩ (by simp) rfl
        clear hR
        refine if_yes rfl ?_
        unfold Oper.wp
        go_simp
        exact ⟨.bool p1, rfl, HC.out, Below.refl _ _, (put_at (SZ 44 (by decide))).trans (congrArg Value.bool Q1.out)⟩
      · clear hR
        refine if_yes rfl ?_
        unfold Oper.wp
        go_simp
        exact ⟨.bool true, rfl, HC.out, Below.refl _ _, (put_at (SZ 44 (by decide))).trans (congrArg Value.bool Q1.out)⟩
    · have h44 : a.tmps.getD 44 undef = .bool q1 := hR ⟨7, .data⟩ (by simp) rfl
      clear hR
      refine if_yes rfl ?_
      unfold Oper.wp
      go_simp
      exact ⟨.bool q1, rfl, HC.out, Below.refl _ _, put_at (SZ 45 (by decide))⟩
    · have g : a.tmps.getD 45 undef = .bool q1 := hR ⟨8, .guard⟩ (by simp) rfl
      cases q1
      · have e1 : a.tmps.getD 1 undef = .pointer (some ⟨w.heap.size, 0, none⟩) := (hB.slot 1 (by decide)).trans HX1.out
        clear hR
        refine if_yes (wanted_at rfl (by kernel_rfl) (SZ 45 (by decide)) g rfl) ?_
        unfold Oper.wp
        go_simp
        exact ⟨.pointer (some ⟨w.heap.size, 4, none⟩), rfl, HC.out, Below.refl _ _, put_at (SZ 46 (by decide))⟩
      · clear hR
        refine if_no (unwanted_at rfl (by kernel_rfl) (SZ 45 (by decide)) g (by decide)) ?_
        exact ⟨undef, rfl, HC.out, Below.refl _ _, put_at (SZ 46 (by decide))⟩
    · have g : a.tmps.getD 45 undef = .bool q1 := hR ⟨8, .guard⟩ (by simp) rfl
      cases q1
      · have h46 : a.tmps.getD 46 undef = .pointer (some ⟨w.heap.size, 4, none⟩) := hR ⟨9, .data⟩ (by simp) rfl
        have hc : w'.cell? ⟨w.heap.size, 4, none⟩ = some (.int .i64 s) := HC.out.1.cell 4
        clear hR
        refine if_yes (wanted_at rfl (by kernel_rfl) (SZ 45 (by decide)) g rfl) ?_
        unfold Oper.wp
        go_simp
        exact ⟨.int .i64 s, rfl, HC.out, Below.refl _ _, put_at (SZ 47 (by decide))⟩
      · clear hR
        refine if_no (unwanted_at rfl (by kernel_rfl) (SZ 45 (by decide)) g (by decide)) ?_
        exact ⟨undef, rfl, HC.out, Below.refl _ _, put_at (SZ 47 (by decide))⟩
    · have g : a.tmps.getD 45 undef = .bool q1 := hR ⟨8, .guard⟩ (by simp) rfl
      cases q1
      · have e1 : a.tmps.getD 1 undef = .pointer (some ⟨w.heap.size, 0, none⟩) := (hB.slot 1 (by decide)).trans HX1.out
        clear hR
        refine if_yes (wanted_at rfl (by kernel_rfl) (SZ 45 (by decide)) g rfl) ?_
        unfold Oper.wp
        go_simp
        exact ⟨.pointer (some ⟨w.heap.size, 0, none⟩), rfl, HC.out, Below.refl _ _, put_at (SZ 48 (by decide))⟩
      · clear hR
        refine if_no (unwanted_at rfl (by kernel_rfl) (SZ 45 (by decide)) g (by decide)) ?_
        exact ⟨undef, rfl, HC.out, Below.refl _ _, put_at (SZ 48 (by decide))⟩
    · have g : a.tmps.getD 45 undef = .bool q1 := hR ⟨8, .guard⟩ (by simp) rfl
      cases q1
      · have h48 : a.tmps.getD 48 undef = .pointer (some ⟨w.heap.size, 0, none⟩) := hR ⟨11, .data⟩ (by simp) rfl
        have hc : w'.cell? ⟨w.heap.size, 0, none⟩ = some (.int .i64 b) := HC.out.1.cell 0
        clear hR
        refine if_yes (wanted_at rfl (by kernel_rfl) (SZ 45 (by decide)) g rfl) ?_
        unfold Oper.wp
        go_simp
        exact ⟨.int .i64 b, rfl, HC.out, Below.refl _ _, put_at (SZ 49 (by decide))⟩
      · clear hR
        refine if_no (unwanted_at rfl (by kernel_rfl) (SZ 45 (by decide)) g (by decide)) ?_
        exact ⟨undef, rfl, HC.out, Below.refl _ _, put_at (SZ 49 (by decide))⟩
    · have g : a.tmps.getD 45 undef = .bool q1 := hR ⟨8, .guard⟩ (by simp) rfl
      cases q1
      · have h49 : a.tmps.getD 49 undef = .int .i64 b := hR ⟨12, .data⟩ (by simp) rfl
        have hw := HW8.out
        clear hR
        refine if_yes (wanted_at rfl (by kernel_rfl) (SZ 45 (by decide)) g rfl) ?_
        unfold Oper.wp
        go_simp
        exact ⟨.int .i64 (b - 8), rfl, HC.out, Below.refl _ _, put_at (SZ 50 (by decide))⟩
      · clear hR
        refine if_no (unwanted_at rfl (by kernel_rfl) (SZ 45 (by decide)) g (by decide)) ?_
        exact ⟨undef, rfl, HC.out, Below.refl _ _, put_at (SZ 50 (by decide))⟩
    · have g : a.tmps.getD 45 undef = .bool q1 := hR ⟨8, .guard⟩ (by simp) rfl
      cases q1
      · have h47 : a.tmps.getD 47 undef = .int .i64 s := hR ⟨10, .data⟩ (by simp) rfl
        have h50 : a.tmps.getD 50 undef = .int .i64 (b - 8) := hR ⟨13, .data⟩ (by simp) rfl
        clear hR
        refine if_yes (wanted_at rfl (by kernel_rfl) (SZ 45 (by decide)) g rfl) ?_
        unfold Oper.wp
        go_simp
        exact ⟨_, rfl, HC.out, Below.refl _ _, (put_at (SZ 51 (by decide))).trans (congrArg Value.bool (by first | exact P2.out | (rw [← P2.out]; first | rfl | (simp; done) | (simp; omega))))⟩
      · clear hR
        refine if_no (unwanted_at rfl (by kernel_rfl) (SZ 45 (by decide)) g (by decide)) ?_
        exact ⟨undef, rfl, HC.out, Below.refl _ _, put_at (SZ 51 (by decide))⟩
    · have h45 : a.tmps.getD 45 undef = .bool q1 := hR ⟨8, .data⟩ (by simp) rfl
      cases q1
      · have h51 : a.tmps.getD 51 undef = .bool p2 := hR ⟨14, .data⟩ (by simp) rfl
        clear hR
        refine if_yes rfl ?_
        unfold Oper.wp
        go_simp
        exact ⟨.bool p2, rfl, HC.out, Below.refl _ _, (put_at (SZ 52 (by decide))).trans (congrArg Value.bool Q2.out)⟩
      · clear hR
        refine if_yes rfl ?_
        unfold Oper.wp
        go_simp
        exact ⟨.bool true, rfl, HC.out, Below.refl _ _, (put_at (SZ 52 (by decide))).trans (congrArg Value.bool Q2.out)⟩
    · have h52 : a.tmps.getD 52 undef = .bool q2 := hR ⟨15, .data⟩ (by simp) rfl
      clear hR
      refine if_yes rfl ?_
      unfold Oper.wp
      go_simp
      exact ⟨.bool q2, rfl, HC.out, Below.refl _ _, put_at (SZ 53 (by decide))⟩
    · have g : a.tmps.getD 53 undef = .bool q2 := hR ⟨16, .guard⟩ (by simp) rfl
      cases q2
      · have e1 : a.tmps.getD 1 undef = .pointer (some ⟨w.heap.size, 0, none⟩) := (hB.slot 1 (by decide)).trans HX1.out
        clear hR
        refine if_yes (wanted_at rfl (by kernel_rfl) (SZ 53 (by decide)) g rfl) ?_
        unfold Oper.wp
        go_simp
        exact ⟨.pointer (some ⟨w.heap.size, 5, none⟩), rfl, HC.out, Below.refl _ _, put_at (SZ 54 (by decide))⟩
      · clear hR
        refine if_no (unwanted_at rfl (by kernel_rfl) (SZ 53 (by decide)) g (by decide)) ?_
        exact ⟨undef, rfl, HC.out, Below.refl _ _, put_at (SZ 54 (by decide))⟩
    · have g : a.tmps.getD 53 undef = .bool q2 := hR ⟨16, .guard⟩ (by simp) rfl
      cases q2
      · have h54 : a.tmps.getD 54 undef = .pointer (some ⟨w.heap.size, 5, none⟩) := hR ⟨17, .data⟩ (by simp) rfl
        have hc : w'.cell? ⟨w.heap.size, 5, none⟩ = some (.int .i64 r) := HC.out.1.cell 5
        clear hR
        refine if_yes (wanted_at rfl (by kernel_rfl) (SZ 53 (by decide)) g rfl) ?_
        unfold Oper.wp
        go_simp
        exact ⟨.int .i64 r, rfl, HC.out, Below.refl _ _, put_at (SZ 55 (by decide))⟩
      · clear hR
        refine if_no (unwanted_at rfl (by kernel_rfl) (SZ 53 (by decide)) g (by decide)) ?_
        exact ⟨undef, rfl, HC.out, Below.refl _ _, put_at (SZ 55 (by decide))⟩
    · have g : a.tmps.getD 53 undef = .bool q2 := hR ⟨16, .guard⟩ (by simp) rfl
      cases q2
      · have h55 : a.tmps.getD 55 undef = .int .i64 r := hR ⟨18, .data⟩ (by simp) rfl
        clear hR
        refine if_yes (wanted_at rfl (by kernel_rfl) (SZ 53 (by decide)) g rfl) ?_
        unfold Oper.wp
        go_simp
        exact ⟨_, rfl, HC.out, Below.refl _ _, (put_at (SZ 56 (by decide))).trans (congrArg Value.bool (by first | exact P3.out | (rw [← P3.out]; first | rfl | (simp; done) | (simp; omega))))⟩
      · clear hR
        refine if_no (unwanted_at rfl (by kernel_rfl) (SZ 53 (by decide)) g (by decide)) ?_
        exact ⟨undef, rfl, HC.out, Below.refl _ _, put_at (SZ 56 (by decide))⟩
    · have h53 : a.tmps.getD 53 undef = .bool q2 := hR ⟨16, .data⟩ (by simp) rfl
      cases q2
      · have h56 : a.tmps.getD 56 undef = .bool p3 := hR ⟨19, .data⟩ (by simp) rfl
        clear hR
        refine if_yes rfl ?_
        unfold Oper.wp
        go_simp
        exact ⟨.bool p3, rfl, HC.out, Below.refl _ _, (put_at (SZ 57 (by decide))).trans (congrArg Value.bool Q3.out)⟩
      · clear hR
        refine if_yes rfl ?_
        unfold Oper.wp
        go_simp
        exact ⟨.bool true, rfl, HC.out, Below.refl _ _, (put_at (SZ 57 (by decide))).trans (congrArg Value.bool Q3.out)⟩
    · have h57 : a.tmps.getD 57 undef = .bool q3 := hR ⟨20, .data⟩ (by simp) rfl
      clear hR
      refine if_yes rfl ?_
      unfold Oper.wp
      go_simp
      exact ⟨.bool q3, rfl, HC.out, Below.refl _ _, put_at (SZ 58 (by decide))⟩
    · have g : a.tmps.getD 58 undef = .bool q3 := hR ⟨21, .guard⟩ (by simp) rfl
      cases q3
      · have e1 : a.tmps.getD 1 undef = .pointer (some ⟨w.heap.size, 0, none⟩) := (hB.slot 1 (by decide)).trans HX1.out
        clear hR
        refine if_yes (wanted_at rfl (by kernel_rfl) (SZ 58 (by decide)) g rfl) ?_
        unfold Oper.wp
        go_simp
        exact ⟨.pointer (some ⟨w.heap.size, 5, none⟩), rfl, HC.out, Below.refl _ _, put_at (SZ 59 (by decide))⟩
      · clear hR
        refine if_no (unwanted_at rfl (by kernel_rfl) (SZ 58 (by decide)) g (by decide)) ?_
        exact ⟨undef, rfl, HC.out, Below.refl _ _, put_at (SZ 59 (by decide))⟩
    · have g : a.tmps.getD 58 undef = .bool q3 := hR ⟨21, .guard⟩ (by simp) rfl
      cases q3
      · have h59 : a.tmps.getD 59 undef = .pointer (some ⟨w.heap.size, 5, none⟩) := hR ⟨22, .data⟩ (by simp) rfl
        have hc : w'.cell? ⟨w.heap.size, 5, none⟩ = some (.int .i64 r) := HC.out.1.cell 5
        clear hR
        refine if_yes (wanted_at rfl (by kernel_rfl) (SZ 58 (by decide)) g rfl) ?_
        unfold Oper.wp
        go_simp
        exact ⟨.int .i64 r, rfl, HC.out, Below.refl _ _, put_at (SZ 60 (by decide))⟩
      · clear hR
        refine if_no (unwanted_at rfl (by kernel_rfl) (SZ 58 (by decide)) g (by decide)) ?_
        exact ⟨undef, rfl, HC.out, Below.refl _ _, put_at (SZ 60 (by decide))⟩
    · have g : a.tmps.getD 58 undef = .bool q3 := hR ⟨21, .guard⟩ (by simp) rfl
      cases q3
      · have h60 : a.tmps.getD 60 undef = .int .i64 r := hR ⟨23, .data⟩ (by simp) rfl
        clear hR
        refine if_yes (wanted_at rfl (by kernel_rfl) (SZ 58 (by decide)) g rfl) ?_
        unfold Oper.wp
        go_simp
        exact ⟨_, rfl, HC.out, Below.refl _ _, (put_at (SZ 61 (by decide))).trans (congrArg Value.bool (by first | exact P4.out | (rw [← P4.out]; first | rfl | (simp; done) | (simp; omega))))⟩
      · clear hR
        refine if_no (unwanted_at rfl (by kernel_rfl) (SZ 58 (by decide)) g (by decide)) ?_
        exact ⟨undef, rfl, HC.out, Below.refl _ _, put_at (SZ 61 (by decide))⟩
    · have h58 : a.tmps.getD 58 undef = .bool q3 := hR ⟨21, .data⟩ (by simp) rfl
      cases q3
      · have h61 : a.tmps.getD 61 undef = .bool p4 := hR ⟨24, .data⟩ (by simp) rfl
        clear hR
        refine if_yes rfl ?_
        unfold Oper.wp
        go_simp
        exact ⟨.bool p4, rfl, HC.out, Below.refl _ _, (put_at (SZ 62 (by decide))).trans (congrArg Value.bool Q4.out)⟩
      · clear hR
        refine if_yes rfl ?_
        unfold Oper.wp
        go_simp
        exact ⟨.bool true, rfl, HC.out, Below.refl _ _, (put_at (SZ 62 (by decide))).trans (congrArg Value.bool Q4.out)⟩
    · have h62 : a.tmps.getD 62 undef = .bool q4 := hR ⟨25, .data⟩ (by simp) rfl
      clear hR
      refine if_yes rfl ?_
      unfold Oper.wp
      go_simp
      exact ⟨.bool q4, rfl, HC.out, Below.refl _ _, put_at (SZ 63 (by decide))⟩
    · have g : a.tmps.getD 63 undef = .bool q4 := hR ⟨26, .guard⟩ (by simp) rfl
      cases q4
      · have e1 : a.tmps.getD 1 undef = .pointer (some ⟨w.heap.size, 0, none⟩) := (hB.slot 1 (by decide)).trans HX1.out
        clear hR
        refine if_yes (wanted_at rfl (by kernel_rfl) (SZ 63 (by decide)) g rfl) ?_
        unfold Oper.wp
        go_simp
        exact ⟨.pointer (some ⟨w.heap.size, 3, none⟩), rfl, HC.out, Below.refl _ _, put_at (SZ 64 (by decide))⟩
      · clear hR
        refine if_no (unwanted_at rfl (by kernel_rfl) (SZ 63 (by decide)) g (by decide)) ?_
        exact ⟨undef, rfl, HC.out, Below.refl _ _, put_at (SZ 64 (by decide))⟩
    · have g : a.tmps.getD 63 undef = .bool q4 := hR ⟨26, .guard⟩ (by simp) rfl
      cases q4
      · have h64 : a.tmps.getD 64 undef = .pointer (some ⟨w.heap.size, 3, none⟩) := hR ⟨27, .data⟩ (by simp) rfl
        have hc : w'.cell? ⟨w.heap.size, 3, none⟩ = some (.int .i64 n) := HC.out.1.cell 3
        clear hR
        refine if_yes (wanted_at rfl (by kernel_rfl) (SZ 63 (by decide)) g rfl) ?_
        unfold Oper.wp
        go_simp
        exact ⟨.int .i64 n, rfl, HC.out, Below.refl _ _, put_at (SZ 65 (by decide))⟩
      · clear hR
        refine if_no (unwanted_at rfl (by kernel_rfl) (SZ 63 (by decide)) g (by decide)) ?_
        exact ⟨undef, rfl, HC.out, Below.refl _ _, put_at (SZ 65 (by decide))⟩
    · have g : a.tmps.getD 63 undef = .bool q4 := hR ⟨26, .guard⟩ (by simp) rfl
      cases q4
      · have h65 : a.tmps.getD 65 undef = .int .i64 n := hR ⟨28, .data⟩ (by simp) rfl
        clear hR
        refine if_yes (wanted_at rfl (by kernel_rfl) (SZ 63 (by decide)) g rfl) ?_
        unfold Oper.wp
        go_simp
        exact ⟨_, rfl, HC.out, Below.refl _ _, (put_at (SZ 66 (by decide))).trans (congrArg Value.bool (by first | exact P5.out | (rw [← P5.out]; first | rfl | (simp; done) | (simp; omega))))⟩
      · clear hR
        refine if_no (unwanted_at rfl (by kernel_rfl) (SZ 63 (by decide)) g (by decide)) ?_
        exact ⟨undef, rfl, HC.out, Below.refl _ _, put_at (SZ 66 (by decide))⟩
    · have h63 : a.tmps.getD 63 undef = .bool q4 := hR ⟨26, .data⟩ (by simp) rfl
      cases q4
      · have h66 : a.tmps.getD 66 undef = .bool p5 := hR ⟨29, .data⟩ (by simp) rfl
        clear hR
        refine if_yes rfl ?_
        unfold Oper.wp
        go_simp
        exact ⟨.bool p5, rfl, HC.out, Below.refl _ _, (put_at (SZ 67 (by decide))).trans (congrArg Value.bool Q5.out)⟩
      · clear hR
        refine if_yes rfl ?_
        unfold Oper.wp
        go_simp
        exact ⟨.bool true, rfl, HC.out, Below.refl _ _, (put_at (SZ 67 (by decide))).trans (congrArg Value.bool Q5.out)⟩
    · have h67 : a.tmps.getD 67 undef = .bool q5 := hR ⟨30, .data⟩ (by simp) rfl
      clear hR
      refine if_yes rfl ?_
      unfold Oper.wp
      go_simp
      exact ⟨.bool q5, rfl, HC.out, Below.refl _ _, put_at (SZ 68 (by decide))⟩
    · have g : a.tmps.getD 68 undef = .bool q5 := hR ⟨31, .guard⟩ (by simp) rfl
      cases q5
      · have e1 : a.tmps.getD 1 undef = .pointer (some ⟨w.heap.size, 0, none⟩) := (hB.slot 1 (by decide)).trans HX1.out
        clear hR
        refine if_yes (wanted_at rfl (by kernel_rfl) (SZ 68 (by decide)) g rfl) ?_
        unfold Oper.wp
        go_simp
        exact ⟨.pointer (some ⟨w.heap.size, 3, none⟩), rfl, HC.out, Below.refl _ _, put_at (SZ 69 (by decide))⟩
      · clear hR
        refine if_no (unwanted_at rfl (by kernel_rfl) (SZ 68 (by decide)) g (by decide)) ?_
        exact ⟨undef, rfl, HC.out, Below.refl _ _, put_at (SZ 69 (by decide))⟩
    · have g : a.tmps.getD 68 undef = .bool q5 := hR ⟨31, .guard⟩ (by simp) rfl
      cases q5
      · have h69 : a.tmps.getD 69 undef = .pointer (some ⟨w.heap.size, 3, none⟩) := hR ⟨32, .data⟩ (by simp) rfl
        have hc : w'.cell? ⟨w.heap.size, 3, none⟩ = some (.int .i64 n) := HC.out.1.cell 3
        clear hR
        refine if_yes (wanted_at rfl (by kernel_rfl) (SZ 68 (by decide)) g rfl) ?_
        unfold Oper.wp
        go_simp
        exact ⟨.int .i64 n, rfl, HC.out, Below.refl _ _, put_at (SZ 70 (by decide))⟩
      · clear hR
        refine if_no (unwanted_at rfl (by kernel_rfl) (SZ 68 (by decide)) g (by decide)) ?_
        exact ⟨undef, rfl, HC.out, Below.refl _ _, put_at (SZ 70 (by decide))⟩
    · have g : a.tmps.getD 68 undef = .bool q5 := hR ⟨31, .guard⟩ (by simp) rfl
      cases q5
      · have h70 : a.tmps.getD 70 undef = .int .i64 n := hR ⟨33, .data⟩ (by simp) rfl
        clear hR
        refine if_yes (wanted_at rfl (by kernel_rfl) (SZ 68 (by decide)) g rfl) ?_
        unfold Oper.wp
        go_simp
        exact ⟨_, rfl, HC.out, Below.refl _ _, (put_at (SZ 71 (by decide))).trans (congrArg Value.bool (by first | exact P6.out | (rw [← P6.out]; first | rfl | (simp; done) | (simp; omega))))⟩
      · clear hR
        refine if_no (unwanted_at rfl (by kernel_rfl) (SZ 68 (by decide)) g (by decide)) ?_
        exact ⟨undef, rfl, HC.out, Below.refl _ _, put_at (SZ 71 (by decide))⟩
    · have h68 : a.tmps.getD 68 undef = .bool q5 := hR ⟨31, .data⟩ (by simp) rfl
      cases q5
      · have h71 : a.tmps.getD 71 undef = .bool p6 := hR ⟨34, .data⟩ (by simp) rfl
        clear hR
        refine if_yes rfl ?_
        unfold Oper.wp
        go_simp
        exact ⟨.bool p6, rfl, HC.out, Below.refl _ _, (put_at (SZ 72 (by decide))).trans (congrArg Value.bool Q6.out)⟩
      · clear hR
        refine if_yes rfl ?_
        unfold Oper.wp
        go_simp
        exact ⟨.bool true, rfl, HC.out, Below.refl _ _, (put_at (SZ 72 (by decide))).trans (congrArg Value.bool Q6.out)⟩
    · have h72 : a.tmps.getD 72 undef = .bool q6 := hR ⟨35, .data⟩ (by simp) rfl
      clear hR
      refine if_yes rfl ?_
      unfold Oper.wp
      go_simp
      exact ⟨.bool q6, rfl, HC.out, Below.refl _ _, put_at (SZ 73 (by decide))⟩
    · have g : a.tmps.getD 73 undef = .bool q6 := hR ⟨36, .guard⟩ (by simp) rfl
      cases q6
      · have e1 : a.tmps.getD 1 undef = .pointer (some ⟨w.heap.size, 0, none⟩) := (hB.slot 1 (by decide)).trans HX1.out
        clear hR
        refine if_yes (wanted_at rfl (by kernel_rfl) (SZ 73 (by decide)) g rfl) ?_
        unfold Oper.wp
        go_simp
        exact ⟨.pointer (some ⟨w.heap.size, 3, none⟩), rfl, HC.out, Below.refl _ _, put_at (SZ 74 (by decide))⟩
      · clear hR
        refine if_no (unwanted_at rfl (by kernel_rfl) (SZ 73 (by decide)) g (by decide)) ?_
        exact ⟨undef, rfl, HC.out, Below.refl _ _, put_at (SZ 74 (by decide))⟩
    · have g : a.tmps.getD 73 undef = .bool q6 := hR ⟨36, .guard⟩ (by simp) rfl
      cases q6
      · have h74 : a.tmps.getD 74 undef = .pointer (some ⟨w.heap.size, 3, none⟩) := hR ⟨37, .data⟩ (by simp) rfl
        have hc : w'.cell? ⟨w.heap.size, 3, none⟩ = some (.int .i64 n) := HC.out.1.cell 3
        clear hR
        refine if_yes (wanted_at rfl (by kernel_rfl) (SZ 73 (by decide)) g rfl) ?_
        unfold Oper.wp
        go_simp
        exact ⟨.int .i64 n, rfl, HC.out, Below.refl _ _, put_at (SZ 75 (by decide))⟩
      · clear hR
        refine if_no (unwanted_at rfl (by kernel_rfl) (SZ 73 (by decide)) g (by decide)) ?_
        exact ⟨undef, rfl, HC.out, Below.refl _ _, put_at (SZ 75 (by decide))⟩
    · have g : a.tmps.getD 73 undef = .bool q6 := hR ⟨36, .guard⟩ (by simp) rfl
      cases q6
      · have e1 : a.tmps.getD 1 undef = .pointer (some ⟨w.heap.size, 0, none⟩) := (hB.slot 1 (by decide)).trans HX1.out
        clear hR
        refine if_yes (wanted_at rfl (by kernel_rfl) (SZ 73 (by decide)) g rfl) ?_
        exact wp_load_row 23 (.tmp 1) rfl w.heap.size e1 23 (gv b l y n s r) (0, 0) _ HC.out.1 Try.underlying23 rfl size_geo ⟨.agg (gv b l y n s r), rfl, HC.out, Below.refl _ _, put_at (SZ 76 (by decide))⟩
      · clear hR
        refine if_no (unwanted_at rfl (by kernel_rfl) (SZ 73 (by decide)) g (by decide)) ?_
        exact ⟨undef, rfl, HC.out, Below.refl _ _, put_at (SZ 76 (by decide))⟩
    · have g : a.tmps.getD 73 undef = .bool q6 := hR ⟨36, .guard⟩ (by simp) rfl
      cases q6
      · have h76 : a.tmps.getD 76 undef = .agg (gv b l y n s r) := hR ⟨39, .data⟩ (by simp) rfl
        clear hR
        refine if_yes (wanted_at rfl (by kernel_rfl) (SZ 73 (by decide)) g rfl) ?_
        unfold Oper.wp
        go_simp
        refine (rge_most b l y n s r w' (HQ6.out rfl)).mono ?_
        rintro e w2 ⟨rfl, hb⟩
        rw [HM.out]
        exact ⟨.int .i64 m, rfl, HC.out.call hb, hb, put_at (SZ 77 (by decide))⟩
      · clear hR
        refine if_no (unwanted_at rfl (by kernel_rfl) (SZ 73 (by decide)) g (by decide)) ?_
        exact ⟨undef, rfl, HC.out, Below.refl _ _, put_at (SZ 77 (by decide))⟩
    · have g : a.tmps.getD 73 undef = .bool q6 := hR ⟨36, .guard⟩ (by simp) rfl
      cases q6
      · have h75 : a.tmps.getD 75 undef = .int .i64 n := hR ⟨38, .data⟩ (by simp) rfl
        have h77 : a.tmps.getD 77 undef = .int .i64 m := hR ⟨40, .data⟩ (by simp) rfl
        clear hR
        refine if_yes (wanted_at rfl (by kernel_rfl) (SZ 73 (by decide)) g rfl) ?_
        unfold Oper.wp
        go_simp
        exact ⟨_, rfl, HC.out, Below.refl _ _, (put_at (SZ 78 (by decide))).trans (congrArg Value.bool (by first | exact P7.out | (rw [← P7.out]; first | rfl | (simp; done) | (simp; omega))))⟩
      · clear hR
        refine if_no (unwanted_at rfl (by kernel_rfl) (SZ 73 (by decide)) g (by decide)) ?_
        exact ⟨undef, rfl, HC.out, Below.refl _ _, put_at (SZ 78 (by decide))⟩
    · have h73 : a.tmps.getD 73 undef = .bool q6 := hR ⟨36, .data⟩ (by simp) rfl
      cases q6
      · have h78 : a.tmps.getD 78 undef = .bool p7 := hR ⟨41, .data⟩ (by simp) rfl
        clear hR
        refine if_yes rfl ?_
        unfold Oper.wp
        go_simp
        exact ⟨.bool p7, rfl, HC.out, Below.refl _ _, (put_at (SZ 79 (by decide))).trans (congrArg Value.bool Q7.out)⟩
      · clear hR
        refine if_yes rfl ?_
        unfold Oper.wp
        go_simp
        exact ⟨.bool true, rfl, HC.out, Below.refl _ _, (put_at (SZ 79 (by decide))).trans (congrArg Value.bool Q7.out)⟩
    · have h79 : a.tmps.getD 79 undef = .bool q7 := hR ⟨42, .data⟩ (by simp) rfl
      clear hR
      refine if_yes rfl ?_
      unfold Oper.wp
      go_simp
      exact ⟨.bool q7, rfl, HC.out, Below.refl _ _, put_at (SZ 80 (by decide))⟩
    · have g : a.tmps.getD 80 undef = .bool q7 := hR ⟨43, .guard⟩ (by simp) rfl
      cases q7
      · have e1 : a.tmps.getD 1 undef = .pointer (some ⟨w.heap.size, 0, none⟩) := (hB.slot 1 (by decide)).trans HX1.out
        clear hR
        refine if_yes (wanted_at rfl (by kernel_rfl) (SZ 80 (by decide)) g rfl) ?_
        exact wp_load_row 23 (.tmp 1) rfl w.heap.size e1 23 (gv b l y n s r) (0, 0) _ HC.out.1 Try.underlying23 rfl size_geo ⟨.agg (gv b l y n s r), rfl, HC.out, Below.refl _ _, put_at (SZ 81 (by decide))⟩
      · clear hR
        refine if_no (unwanted_at rfl (by kernel_rfl) (SZ 80 (by decide)) g (by decide)) ?_
        exact ⟨undef, rfl, HC.out, Below.refl _ _, put_at (SZ 81 (by decide))⟩
    · have g : a.tmps.getD 80 undef = .bool q7 := hR ⟨43, .guard⟩ (by simp) rfl
      cases q7
      · have h81 : a.tmps.getD 81 undef = .agg (gv b l y n s r) := hR ⟨44, .data⟩ (by simp) rfl
        clear hR
        refine if_yes (wanted_at rfl (by kernel_rfl) (SZ 80 (by decide)) g rfl) ?_
        unfold Oper.wp
        go_simp
        refine (rge_snaps b l y n s r w' (HQ7.out rfl)).mono ?_
        rintro e w2 ⟨rfl, hb⟩
        rw [HK.out]
        exact ⟨.int .i64 k, rfl, HC.out.call hb, hb, put_at (SZ 82 (by decide))⟩
      · clear hR
        refine if_no (unwanted_at rfl (by kernel_rfl) (SZ 80 (by decide)) g (by decide)) ?_
        exact ⟨undef, rfl, HC.out, Below.refl _ _, put_at (SZ 82 (by decide))⟩
    · have g : a.tmps.getD 80 undef = .bool q7 := hR ⟨43, .guard⟩ (by simp) rfl
      cases q7
      · have e1 : a.tmps.getD 1 undef = .pointer (some ⟨w.heap.size, 0, none⟩) := (hB.slot 1 (by decide)).trans HX1.out
        clear hR
        refine if_yes (wanted_at rfl (by kernel_rfl) (SZ 80 (by decide)) g rfl) ?_
        unfold Oper.wp
        go_simp
        exact ⟨.pointer (some ⟨w.heap.size, 1, none⟩), rfl, HC.out, Below.refl _ _, put_at (SZ 83 (by decide))⟩
      · clear hR
        refine if_no (unwanted_at rfl (by kernel_rfl) (SZ 80 (by decide)) g (by decide)) ?_
        exact ⟨undef, rfl, HC.out, Below.refl _ _, put_at (SZ 83 (by decide))⟩
    · have g : a.tmps.getD 80 undef = .bool q7 := hR ⟨43, .guard⟩ (by simp) rfl
      cases q7
      · have h83 : a.tmps.getD 83 undef = .pointer (some ⟨w.heap.size, 1, none⟩) := hR ⟨46, .data⟩ (by simp) rfl
        have hc : w'.cell? ⟨w.heap.size, 1, none⟩ = some (.int .i64 l) := HC.out.1.cell 1
        clear hR
        refine if_yes (wanted_at rfl (by kernel_rfl) (SZ 80 (by decide)) g rfl) ?_
        unfold Oper.wp
        go_simp
        exact ⟨.int .i64 l, rfl, HC.out, Below.refl _ _, put_at (SZ 84 (by decide))⟩
      · clear hR
        refine if_no (unwanted_at rfl (by kernel_rfl) (SZ 80 (by decide)) g (by decide)) ?_
        exact ⟨undef, rfl, HC.out, Below.refl _ _, put_at (SZ 84 (by decide))⟩
    · have g : a.tmps.getD 80 undef = .bool q7 := hR ⟨43, .guard⟩ (by simp) rfl
      cases q7
      · have h84 : a.tmps.getD 84 undef = .int .i64 l := hR ⟨47, .data⟩ (by simp) rfl
        have hw := HW4.out
        clear hR
        refine if_yes (wanted_at rfl (by kernel_rfl) (SZ 80 (by decide)) g rfl) ?_
        unfold Oper.wp
        go_simp
        exact ⟨.int .i64 (l - 4), rfl, HC.out, Below.refl _ _, put_at (SZ 85 (by decide))⟩
      · clear hR
        refine if_no (unwanted_at rfl (by kernel_rfl) (SZ 80 (by decide)) g (by decide)) ?_
        exact ⟨undef, rfl, HC.out, Below.refl _ _, put_at (SZ 85 (by decide))⟩
    · have g : a.tmps.getD 80 undef = .bool q7 := hR ⟨43, .guard⟩ (by simp) rfl
      cases q7
      · have h82 : a.tmps.getD 82 undef = .int .i64 k := hR ⟨45, .data⟩ (by simp) rfl
        have h85 : a.tmps.getD 85 undef = .int .i64 (l - 4) := hR ⟨48, .data⟩ (by simp) rfl
        clear hR
        refine if_yes (wanted_at rfl (by kernel_rfl) (SZ 80 (by decide)) g rfl) ?_
        unfold Oper.wp
        go_simp
        exact ⟨_, rfl, HC.out, Below.refl _ _, (put_at (SZ 86 (by decide))).trans (congrArg Value.bool (by first | exact P8.out | (rw [← P8.out]; first | rfl | (simp; done) | (simp; omega))))⟩
      · clear hR
        refine if_no (unwanted_at rfl (by kernel_rfl) (SZ 80 (by decide)) g (by decide)) ?_
        exact ⟨undef, rfl, HC.out, Below.refl _ _, put_at (SZ 86 (by decide))⟩
    · have h80 : a.tmps.getD 80 undef = .bool q7 := hR ⟨43, .data⟩ (by simp) rfl
      cases q7
      · have h86 : a.tmps.getD 86 undef = .bool p8 := hR ⟨49, .data⟩ (by simp) rfl
        clear hR
        refine if_yes rfl ?_
        unfold Oper.wp
        go_simp
        exact ⟨.bool p8, rfl, HC.out, Below.refl _ _, (put_at (SZ 87 (by decide))).trans (congrArg Value.bool Q8.out)⟩
      · clear hR
        refine if_yes rfl ?_
        unfold Oper.wp
        go_simp
        exact ⟨.bool true, rfl, HC.out, Below.refl _ _, (put_at (SZ 87 (by decide))).trans (congrArg Value.bool Q8.out)⟩
  · intro a' w' hC hB hR
    have h87 : a'.tmps.getD 87 undef = .bool q8 := hR 50 (by decide)
    have HE := Lib.hid hC.2
    obtain ⟨u, hu⟩ : ∃ u : Nat → Value, ∀ j, a'.tmps.getD j undef = u j := ⟨_, fun _ => rfl⟩
    have hp := hB.puts 51 (by rw [HSZ.out]; decide) rfl
    simp only [hu] at hp h87
    have hp2 : a' = ⟨(A.tmps.toList.take 37 ++ [(u 37), (u 38), (u 39), (u 40), (u 41), (u 42), (u 43), (u 44), (u 45), (u 46), (u 47), (u 48), (u 49), (u 50), (u 51), (u 52), (u 53), (u 54), (u 55), (u 56), (u 57), (u 58), (u 59), (u 60), (u 61), (u 62), (u 63), (u 64), (u 65), (u 66), (u 67), (u 68), (u 69), (u 70), (u 71), (u 72), (u 73), (u 74), (u 75), (u 76), (u 77), (u 78), (u 79), (u 80), (u 81), (u 82), (u 83), (u 84), (u 85), (u 86), (.bool q8)] ++ A.tmps.toList.drop 88).toArray, A.defers⟩ := by
      rw [hp, show List.range 51 = [0, 1, 2, 3, 4, 5, 6, 7, 8, 9, 10, 11, 12, 13, 14, 15, 16, 17, 18, 19, 20, 21, 22, 23, 24, 25, 26, 27, 28, 29, 30, 31, 32, 33, 34, 35, 36, 37, 38, 39, 40, 41, 42, 43, 44, 45, 46, 47, 48, 49, 50] by decide]
      simp only [List.map_cons, List.map_nil, Nat.reduceAdd]
      rw [h87]
    clear hR h87 hC hB hu hp
    subst hp2
    rw [← HA.out]
    clear HA HSZ HX1
    change (_ : Exit → Act → World → Prop) _ (⟨#[_, _, _, _, _, _, _, _, _, _, _, _, _, _, _, _, _, _, _, _, _, _, _, _, _, _, _, _, _, _, _, _, _, _, _, _, _, _, _, _, _, _, _, _, _, _, _, _, _, _, _, _, _, _, _, _, _, _, _, _, _, _, _, _, _, _, _, _, _, _, _, _, _, _, _, _, _, _, _, _, _, _, _, _, _, _, _, _], _⟩ : Act) _
    cases q8
    all_goals
      go_wp2_with fail
      go_ret
      exact ⟨ret_int HQ8.out.symm, HE.out⟩

end Go.Proofs.Ytgnjknboahcmgaa

/- The reference of layer 6, walked: Check, whole; Raw, Spread. -/
namespace Go.Proofs.Ytgnjknboahcmgaa
set_option maxRecDepth 100000
open Go.RowKit

theorem rge_check (b l y n s r : Int) (w : World) : Calls Try.prog 26 #[.agg (gv b l y n s r)] w (ChkT b l y n s r w) := by
  by_cases h : FirstG b l y
  · exact rge_check_rest b l y n s r w h
  · exact rge_check_first b l y n s r w h

end Go.Proofs.Ytgnjknboahcmgaa

/- The reference's within and Fits. -/
namespace Go.Proofs.Ytgnjknboahcmgaa
set_option maxRecDepth 100000
open Go.RowKit

/-- the first k of them are from 0 to this one -/
def UpTo (l : List Int) (most : Int) (k : Nat) : Prop := ∀ j (h : j < l.length), j < k → 0 ≤ l[j] ∧ l[j] ≤ most
theorem UpTo.zero (l : List Int) (most : Int) : UpTo l most 0 := fun _ _ h => absurd h (Nat.not_lt_zero _)
theorem UpTo.one {l : List Int} {most : Int} {k : Nat} (h : UpTo l most k) (hk : k < l.length) (h1 : 0 ≤ l[k]) (h2 : l[k] ≤ most) : UpTo l most (k + 1) := fun j g1 g2 => by
  rcases Nat.lt_or_ge j k with h5 | h5
  · exact h j g1 h5
  · obtain rfl : j = k := by omega
    exact ⟨h1, h2⟩
theorem UpTo.all {l : List Int} {most : Int} {k : Nat} (h : UpTo l most k) (hk : l.length ≤ k) : ∀ v ∈ l, 0 ≤ v ∧ v ≤ most := fun v hv => by
  obtain ⟨j, hj, rfl⟩ := List.getElem_of_mem hv
  exact h j hj (by omega)
theorem inB_no {l : List Int} {n most : Int} {k : Nat} (hk : k < l.length) (h : l[k] < 0 ∨ most < l[k]) : inB l n most = false :=
  decide_eq_false fun hh => by have := hh.2 _ (List.getElem_mem hk); omega

set_option maxHeartbeats 1000000 in
theorem rsn_within (w : World) (v : Value) (l : List Int) (n most : Int) (hn : -9223372036854775808 ≤ n ∧ n ≤ 9223372036854775807) (hv : IvAt w v l) :
    Calls Try.prog 48 #[v, .int .i64 n, .int .i64 most] w fun e w' => e = .returned (.bool (inB l n most)) ∧ Below w.heap.size w w' := by
  obtain ⟨a, cap, rfl, hc, hs⟩ := hv
  obtain ⟨N, hN⟩ : ∃ N, l.length = N := ⟨_, rfl⟩
  have hb : (N : Int) ≤ 9223372036854775807 := by unfold maxLen at hc; omega
  have HS := Lib.hid hs
  have HN := Lib.hid hN
  rw [hN]
  clear hs hN hc
  by_cases hz : (N : Int) = n
  · subst hz
    have hzb : ((N : Int) == (N : Int)) = true := by simp
    go_enter Try.func48, Try.ntmps48
    go_wp2_with fail
    go_loopw [7] (fun i wr => ∃ (k : Nat), k ≤ N ∧ i = .int .i64 k ∧ Hid (UpTo l most k) ∧ Hid (Below w.heap.size w wr)) (fun i _ => N + 1 - (intOf i).toNat)
    case atStart => exact ⟨0, Nat.zero_le _, rfl, UpTo.zero _ _, Below.refl _ _⟩
    case round =>
      obtain ⟨k, hk, rfl, HY, HB⟩ := hrel
      by_cases hlt : k < N
      · have hltz : (k : Int) < (N : Int) := by omega
        have hkl : k < l.length := by have := HN.out; omega
        obtain ⟨g, o, rfl, hg, h1⟩ := HS.out (by intro h0; rw [h0] at hkl; exact absurd hkl (Nat.not_lt_zero _))
        have r1 := h1 k hkl
        obtain ⟨x, hx⟩ : ∃ x, l[k] = x := ⟨_, rfl⟩
        rw [hx] at r1
        have c1 := (HB.out.cell (p := ⟨g, o + k, none⟩) (cell_lt r1)).trans r1
        by_cases hneg : x < 0
        · have HNO : Hid (inB l N most = false) := inB_no hkl (Or.inl (by rw [hx]; exact hneg))
          clear HY h1 r1 hx hg hkl
          go_wp2_with fail
          go_ret
          exact ⟨ret_bool HNO.out.symm, HB.out⟩
        · by_cases hbig : most < x
          · have HNO : Hid (inB l N most = false) := inB_no hkl (Or.inr (by rw [hx]; exact hbig))
            clear HY h1 r1 hx hg hkl
            go_wp2_with fail
            go_ret
            exact ⟨ret_bool HNO.out.symm, HB.out⟩
          · have HY2 : Hid (UpTo l most (k + 1)) := HY.out.one hkl (by rw [hx]; omega) (by rw [hx]; omega)
            clear HY h1 r1 hx hg hkl
            go_wp2_with fail
            refine ⟨⟨k + 1, by omega, by go_num, HY2, HB⟩, ?_⟩
            simp [intOf]; omega
      · obtain rfl : k = N := by omega
        have hltz : ¬ (k : Int) < (k : Int) := by omega
        have HE : Hid (inB l k most = true) := decide_eq_true ⟨by rw [HN.out], HY.out.all (by rw [HN.out]; exact Nat.le_refl _)⟩
        clear HY hlt
        go_wp2_with fail
        go_ret
        exact ⟨ret_bool HE.out.symm, HB.out⟩
  · have hnb : ((N : Int) == n) = false := by simp; omega
    have HNO : Hid (inB l n most = false) := decide_eq_false (fun h => hz (by rw [← HN.out]; exact h.1))
    go_enter Try.func48, Try.ntmps48
    go_wp2_with fail
    go_ret
    exact ⟨ret_bool HNO.out.symm, Below.refl _ _⟩

end Go.Proofs.Ytgnjknboahcmgaa

/- The reference's Fits. -/
namespace Go.Proofs.Ytgnjknboahcmgaa
set_option maxRecDepth 100000
open Go.RowKit

theorem chk_eq0 (b l y n s r : Int) : (chkG b l y n s r = 0 ∧ OkG b l y n s r) ∨ (chkG b l y n s r = 60 ∧ ¬ OkG b l y n s r) := by
  by_cases h : OkG b l y n s r
  · exact Or.inl ⟨chk_ok h, h⟩
  · exact Or.inr ⟨chk_no h, h⟩
/-- may the geometry be, and does what is durable fit it? -/
def fitsB (b l y n s r : Int) (x : Sn) : Bool := decide (OkG b l y n s r ∧ FitS b n x)
theorem fitsB_no {b l y n s r : Int} {x : Sn} (h : ¬ OkG b l y n s r) : fitsB b l y n s r x = false := decide_eq_false fun hh => h hh.1
theorem fitsB_ok {b l y n s r : Int} {x : Sn} (h : OkG b l y n s r) : fitsB b l y n s r x = (inB x.f n 281474976710655 && (inB x.c b 4294967295 && (inB x.s b 16777215 && inB x.t b 16777215))) := by
  unfold fitsB inB FitS
  rw [Bool.eq_iff_iff]
  simp [h]

/-- the two blocks that a call of Fits or Put lays, and what is below -/
def SnW (w0 : World) (b l y n s r : Int) (A : Array Value) (w : World) : Prop :=
  (w0.heap.size + 2 ≤ w.heap.size ∧ Blk w w0.heap.size (gv b l y n s r) 23 ∧ Blk w (w0.heap.size + 1) A 32) ∧ Below w0.heap.size w0 w
theorem SnW.new (w0 : World) (b l y n s r : Int) (A : Array Value) : SnW w0 b l y n s r A ((w0.alloc (.cells (gv b l y n s r) 23)).alloc (.cells A 32)) := by
  refine ⟨⟨?_, (Blk.new _ _ _).alloc _, ?_⟩, ((Below.refl _ _).alloc (Nat.le_refl _) _).alloc (by simp) _⟩
  · simp
  · have h := Blk.new (w0.alloc (.cells (gv b l y n s r) 23)) A 32
    rwa [World.size_alloc] at h
theorem SnW.call {w0 w w' : World} {b l y n s r : Int} {A : Array Value} (h : SnW w0 b l y n s r A w) (hb : Below w.heap.size w w') : SnW w0 b l y n s r A w' :=
  ⟨⟨Nat.le_trans h.1.1 hb.size, h.1.2.1.after hb, h.1.2.2.after hb⟩, h.2.trans (hb.mono h.2.size)⟩
theorem SnW.geo {w0 w : World} {b l y n s r : Int} {A : Array Value} (h : SnW w0 b l y n s r A w) :
    w.cell? ⟨w0.heap.size, 0, none⟩ = some (.int .i64 b) ∧ w.cell? ⟨w0.heap.size, 2, none⟩ = some (.int .i64 y) ∧ w.cell? ⟨w0.heap.size, 3, none⟩ = some (.int .i64 n) :=
  ⟨h.1.2.1.cell 0, h.1.2.1.cell 2, h.1.2.1.cell 3⟩
theorem SnW.four {w0 w : World} {b l y n s r : Int} {vf vc vs vt : Value} (h : SnW w0 b l y n s r #[vf, vc, vs, vt] w) :
    w.cell? ⟨w0.heap.size + 1, 0, none⟩ = some vf ∧ w.cell? ⟨w0.heap.size + 1, 1, none⟩ = some vc ∧ w.cell? ⟨w0.heap.size + 1, 2, none⟩ = some vs ∧ w.cell? ⟨w0.heap.size + 1, 3, none⟩ = some vt :=
  ⟨h.1.2.2.cell 0, h.1.2.2.cell 1, h.1.2.2.cell 2, h.1.2.2.cell 3⟩

set_option maxHeartbeats 1000000 in
theorem rsn_fits (w : World) (b l y n s r : Int) (A : Array Value) (x : Sn) (hA : SnAt w A x) :
    Calls Try.prog 37 #[.agg (gv b l y n s r), .agg A] w fun e w' => e = .returned (.bool (fitsB b l y n s r x)) ∧ Below w.heap.size w w' := by
  obtain ⟨w2, hw2⟩ : ∃ w2, (w.alloc (.cells (gv b l y n s r) 23)).alloc (.cells A 32) = w2 := ⟨_, rfl⟩
  have hsw : SnW w b l y n s r A w2 := by rw [← hw2]; exact SnW.new _ _ _ _ _ _ _ _
  obtain ⟨vf, vc, vs, vt, rfl, h1, h2, h3, h4⟩ := hA
  have HSW := Lib.hid hsw
  have HW2 := Lib.hid hw2
  rcases chk_eq0 b l y n s r with ⟨hck, hok⟩ | ⟨hck, hok⟩
  · rw [fitsB_ok hok]
    obtain ⟨hb, hn⟩ : (-9223372036854775808 ≤ b ∧ b ≤ 9223372036854775807) ∧ (-9223372036854775808 ≤ n ∧ n ≤ 9223372036854775807) := by
      have h := hok.1; unfold PreG at h; omega
    have H1 : Hid (∀ w3, Below w2.heap.size w2 w3 → Calls Try.prog 48 #[vf, .int .i64 n, .int .i64 281474976710655] w3 fun e w' => e = .returned (.bool (inB x.f n 281474976710655)) ∧ Below w3.heap.size w3 w') := fun w3 hb3 => rsn_within w3 vf x.f n _ hn ((h1.below hsw.2).below hb3)
    have H2 : Hid (∀ w3, Below w2.heap.size w2 w3 → Calls Try.prog 48 #[vc, .int .i64 b, .int .i64 4294967295] w3 fun e w' => e = .returned (.bool (inB x.c b 4294967295)) ∧ Below w3.heap.size w3 w') := fun w3 hb3 => rsn_within w3 vc x.c b _ hb ((h2.below hsw.2).below hb3)
    have H3 : Hid (∀ w3, Below w2.heap.size w2 w3 → Calls Try.prog 48 #[vs, .int .i64 b, .int .i64 16777215] w3 fun e w' => e = .returned (.bool (inB x.s b 16777215)) ∧ Below w3.heap.size w3 w') := fun w3 hb3 => rsn_within w3 vs x.s b _ hb ((h3.below hsw.2).below hb3)
    have H4 : Hid (∀ w3, Below w2.heap.size w2 w3 → Calls Try.prog 48 #[vt, .int .i64 b, .int .i64 16777215] w3 fun e w' => e = .returned (.bool (inB x.t b 16777215)) ∧ Below w3.heap.size w3 w') := fun w3 hb3 => rsn_within w3 vt x.t b _ hb ((h4.below hsw.2).below hb3)
    obtain ⟨q1, hq1⟩ : ∃ q, inB x.f n 281474976710655 = q := ⟨_, rfl⟩
    obtain ⟨q2, hq2⟩ : ∃ q, inB x.c b 4294967295 = q := ⟨_, rfl⟩
    obtain ⟨q3, hq3⟩ : ∃ q, inB x.s b 16777215 = q := ⟨_, rfl⟩
    obtain ⟨q4, hq4⟩ : ∃ q, inB x.t b 16777215 = q := ⟨_, rfl⟩
    rw [hq1, hq2, hq3, hq4]
    simp only [hq1] at H1
    simp only [hq2] at H2
    simp only [hq3] at H3
    simp only [hq4] at H4
    have HK := Lib.hid hck
    have hbw : ∀ w3, Below w2.heap.size w2 w3 → Below w.heap.size w w3 := fun w3 hb3 => hsw.2.trans (hb3.mono hsw.2.size)
    have HBW := Lib.hid hbw
    clear h1 h2 h3 h4 hq1 hq2 hq3 hq4 hck hsw hok hb hn hw2 hbw
    go_enter Try.func37, Try.ntmps37
    go_wp2_with (first
      | (change wpList _ _ _ _ _ ((w.alloc (.cells (gv b l y n s r) 23)).alloc (.cells #[vf, vc, vs, vt] 32)); rw [HW2.out]; refine wpList_load_row rfl 23 (.tmp 2) rfl w.heap.size rfl 23 (gv b l y n s r) (0, 0) _ HSW.out.1.2.1 Try.underlying23 rfl size_geo ?_))
    refine (rge_check b l y n s r w2).mono ?_
    rintro e w3 ⟨rfl, hb3⟩
    rw [HK.out]
    have hsw3 := HSW.out.call hb3
    obtain ⟨g0, g2, g3⟩ := hsw3.geo
    obtain ⟨c0, c1, c2, c3⟩ := hsw3.four
    have HB3 := Lib.hid hb3
    clear hb3 hsw3
    go_wp2_with fail
    refine (H1.out w3 HB3.out).mono ?_
    rintro e w4 ⟨rfl, hb4⟩
    have hb4' := HB3.out.trans (hb4.mono HB3.out.size)
    clear g0 g2 g3 c0 c1 c2 c3 hb4
    have hsw4 := HSW.out.call hb4'
    have HB4 := Lib.hid hb4'
    cases q1
    · clear hsw4 hb4'
      go_wp2_with fail
      go_ret
      exact ⟨rfl, HBW.out _ HB4.out⟩
    obtain ⟨g0, g2, g3⟩ := hsw4.geo
    obtain ⟨c0, c1, c2, c3⟩ := hsw4.four
    clear hsw4 hb4'
    go_wp2_with fail
    refine (H2.out w4 HB4.out).mono ?_
    rintro e w5 ⟨rfl, hb5⟩
    have hb5' := HB4.out.trans (hb5.mono HB4.out.size)
    clear g0 g2 g3 c0 c1 c2 c3 hb5
    have hsw5 := HSW.out.call hb5'
    have HB5 := Lib.hid hb5'
    cases q2
    · clear hsw5 hb5'
      go_wp2_with fail
      go_ret
      exact ⟨rfl, HBW.out _ HB5.out⟩
    obtain ⟨g0, g2, g3⟩ := hsw5.geo
    obtain ⟨c0, c1, c2, c3⟩ := hsw5.four
    clear hsw5 hb5'
    go_wp2_with fail
    refine (H3.out w5 HB5.out).mono ?_
    rintro e w6 ⟨rfl, hb6⟩
    have hb6' := HB5.out.trans (hb6.mono HB5.out.size)
    clear g0 g2 g3 c0 c1 c2 c3 hb6
    have hsw6 := HSW.out.call hb6'
    have HB6 := Lib.hid hb6'
    cases q3
    · clear hsw6 hb6'
      go_wp2_with fail
      go_ret
      exact ⟨rfl, HBW.out _ HB6.out⟩
    obtain ⟨g0, g2, g3⟩ := hsw6.geo
    obtain ⟨c0, c1, c2, c3⟩ := hsw6.four
    clear hsw6 hb6'
    go_wp2_with fail
    refine (H4.out w6 HB6.out).mono ?_
    rintro e w7 ⟨rfl, hb7⟩
    have HB7 := Lib.hid (HB6.out.trans (hb7.mono HB6.out.size))
    clear g0 g2 g3 c0 c1 c2 c3 hb7
    go_wp2_with fail
    go_ret
    exact ⟨rfl, HBW.out _ HB7.out⟩
  · rw [fitsB_no hok]
    have HK := Lib.hid hck
    have HBW : Hid (∀ w3, Below w2.heap.size w2 w3 → Below w.heap.size w w3) := fun w3 hb3 => hsw.2.trans (hb3.mono hsw.2.size)
    clear h1 h2 h3 h4 hck hsw hok hw2
    go_enter Try.func37, Try.ntmps37
    go_wp2_with (first
      | (change wpList _ _ _ _ _ ((w.alloc (.cells (gv b l y n s r) 23)).alloc (.cells #[vf, vc, vs, vt] 32)); rw [HW2.out]; refine wpList_load_row rfl 23 (.tmp 2) rfl w.heap.size rfl 23 (gv b l y n s r) (0, 0) _ HSW.out.1.2.1 Try.underlying23 rfl size_geo ?_))
    refine (rge_check b l y n s r w2).mono ?_
    rintro e w3 ⟨rfl, hb3⟩
    rw [HK.out]
    have HB3 := Lib.hid hb3
    clear hb3
    go_wp2_with fail
    go_ret
    exact ⟨rfl, HBW.out _ HB3.out⟩

end Go.Proofs.Ytgnjknboahcmgaa

/- The text of what is durable, as it grows; and its pages. -/
namespace Go.Proofs.Ytgnjknboahcmgaa
set_option maxRecDepth 100000
open Go.RowKit

def accF (l : List Int) (i : Nat) : ByteArray := ⟨(secB (l.take i)).toArray⟩
def accK (x : Sn) (i : Nat) : ByteArray := ⟨(secB x.f ++ (List.range i).flatMap (blkB x)).toArray⟩
theorem accF_step (l : List Int) (i : Nat) (h : i < l.length) : accF l (i + 1) = accF l i ++ leS l[i] 6 := by
  apply bytes_eq
  rw [ByteArray.data_append, Array.toList_append]
  show secB (l.take (i + 1)) = secB (l.take i) ++ le l[i] 6
  have h2 : l.take (i + 1) = l.take i ++ [l[i]] := by rw [List.take_add_one, List.getElem?_eq_getElem h]; rfl
  rw [h2]
  unfold secB
  rw [List.flatMap_append, List.flatMap_cons, List.flatMap_nil, List.append_nil]
theorem accF_size (l : List Int) (i : Nat) : (accF l i).size = 6 * min i l.length := by
  show (secB (l.take i)).length = _
  rw [secB_len, List.length_take]
theorem accF_all (x : Sn) : accF x.f x.f.length = accK x 0 := by
  unfold accF accK
  simp
theorem accK_step (x : Sn) (i : Nat) (h : i < x.c.length) (h2 : i < x.s.length) (h3 : i < x.t.length) : accK x (i + 1) = ((accK x i ++ leS x.c[i] 4) ++ leS x.s[i] 3) ++ leS x.t[i] 3 := by
  apply bytes_eq
  simp only [ByteArray.data_append, Array.toList_append]
  show secB x.f ++ (List.range (i + 1)).flatMap (blkB x) = ((secB x.f ++ (List.range i).flatMap (blkB x)) ++ le x.c[i] 4) ++ le x.s[i] 3 ++ le x.t[i] 3
  rw [List.range_succ, List.flatMap_append]
  simp [blkB, List.getD_eq_getElem?_getD, List.getElem?_eq_getElem h, List.getElem?_eq_getElem h2, List.getElem?_eq_getElem h3]
theorem accK_size (x : Sn) (i : Nat) : (accK x i).size = 6 * x.f.length + 10 * i := by
  show (secB x.f ++ (List.range i).flatMap (blkB x)).length = _
  rw [List.length_append, secB_len, blksB_len]
/-- the padded text, whole -/
def textN (x : Sn) (k y : Nat) : ByteArray := padT (accK x x.c.length) (k * y - (6 * x.f.length + 10 * x.c.length))
theorem textN_eq (x : Sn) (k y : Nat) : textN x k y = ⟨(padN x k y).toArray⟩ := by
  apply bytes_eq
  unfold textN padT padN
  rw [bytesN_len]
  rfl
theorem page_ext (x : Sn) (k y i : Nat) : (textN x k y).extract (i * y) (i * y + y) = pageN x k y i := by
  apply bytes_eq
  rw [textN_eq, ByteArray.data_extract, Array.toList_extract]
  show ((padN x k y).extract (i * y) (i * y + y)) = ((padN x k y).drop (i * y)).take y
  rw [List.extract_eq_take_drop]
  congr 1; omega

/-- what stays true as the world grows -/
def Stay (S : World → Prop) : Prop := ∀ w w', S w → Below w.heap.size w w' → S w'
theorem Stay.cell (p : Addr) (v : Value) : Stay fun w => w.cell? p = some v := fun _ _ h hb => (hb.cell (cell_lt h)).trans h
theorem Stay.and {S T : World → Prop} (h : Stay S) (h2 : Stay T) : Stay fun w => S w ∧ T w := fun _ _ hw hb => ⟨h _ _ hw.1 hb, h2 _ _ hw.2 hb⟩
theorem Stay.below (w : World) : Stay fun w' => Below w.heap.size w w' := fun _ _ h hb => h.trans (hb.mono h.size)
theorem num_stay {S : World → Prop} (hS : Stay S) (v : Int) (n : Nat) (w : World) (hw : S w) (h1 : 1 ≤ n) (h2 : n ≤ 6) (v0 : 0 ≤ v) (v1 : v < p2 (8 * n)) :
    Calls Try.prog 38 #[.int .i64 v, .int .i64 n] w fun e w' => e = .returned (.string (leS v n)) ∧ S w' := by
  have h3 : p2 (8 * n) ≤ p2 48 := p2_le (by omega)
  have h4 : p2 48 = 281474976710656 := by decide
  refine (rtag_number v n w h1 (by omega) v0 v1 (by omega)).mono ?_
  rintro e w' ⟨rfl, hb⟩
  exact ⟨rfl, hS _ _ hw hb⟩

theorem ownsRow_monoS {W : World} {B B' : Nat} {e : TypeId} {size : Nat} {v : Value} {n : Nat} {xs : List Value} (h : W.ownsRow B e size v n xs) (hb : B' ≤ B) : W.ownsRow B' e size v n xs := by
  refine ⟨h.1, ?_⟩
  rcases h.2 with ⟨rfl, h0⟩ | ⟨g, cap, cur, rfl, hbg, hg, h1⟩
  · exact .inl ⟨rfl, h0⟩
  · exact .inr ⟨g, cap, cur, rfl, by omega, hg, h1⟩
theorem SnW.far {w0 w w' : World} {b l y n s r : Int} {A : Array Value} (h : SnW w0 b l y n s r A w) (hb : Below (w0.heap.size + 2) w w') : SnW w0 b l y n s r A w' :=
  ⟨⟨Nat.le_trans h.1.1 hb.size, h.1.2.1.below hb (by omega), h.1.2.2.below hb (by omega)⟩, h.2.trans (hb.mono (by omega))⟩

end Go.Proofs.Ytgnjknboahcmgaa
