/- Texts of one claim, merged: CeC9, CeCA. -/
import Derived.Test.YtlijndkpgmbapaaGreatDoorS7
import Derived.ChangeKeysEq
import Derived.Test.YtlijndkpgmbapaaGreatDoorS2

/- Package cell, walked: Foggy, Fine. -/
namespace Go.Proofs.YtlijndkpgmbapaaGreatDoor
set_option maxRecDepth 100000
open Go.RowKit

/-- are three texts the same as three others? -/
def same3 (p q r p' q' r' : ByteArray) : Bool := p == p' && (q == q' && r == r')
theorem beqB (a b : ByteArray) : (a == b) = true ↔ a = b := by
  rw [beq_toListBytes, beq_iff_eq, ByteArray.toList_eq, ByteArray.toList_eq]
  exact ⟨fun h => ByteArray.ext (Array.toList_inj.1 h), fun h => by rw [h]⟩
theorem same3_iff (p q r p' q' r' : ByteArray) : same3 p q r p' q' r' = true ↔ p = p' ∧ q = q' ∧ r = r' := by
  unfold same3
  rw [Bool.and_eq_true, Bool.and_eq_true, beqB, beqB, beqB]
theorem eq_three (p q r p' q' r' : ByteArray) (w : World) : (Op.equalIn 10000 38 (.agg #[.string p, .string q, .string r]) (.agg #[.string p', .string q', .string r'])).run Tryz.prog w = .ok (same3 p q r p' q' r') w := by
  have hu : Tryz.prog.underlying 38 = some (.array 3 9) := by kernel_rfl
  obtain ⟨i, hi, hzz⟩ := Option.map_eq_some_iff.1 info_str
  simp only [Prod.mk.injEq] at hzz
  have hz1 := hzz.1
  have hc : Tryz.prog.cellsOf 9 = 1 := by kernel_rfl
  rw [run_equalIn_array w 9999 _ _ hu hi, hc]
  have hs : ∀ (a b : ByteArray) w, (Op.equalIn 9999 9 (.string a) (.string b)).run Tryz.prog w = .ok (a == b) w := fun a b w => by
    rw [run_equalIn_string w 9998 _ a b Tryz.underlying9, beq_toListBytes]
  simp [List.range, List.range.loop, Op.eqItems, part, isAgg, run_underlying Tryz.underlying9, hs, same3]
  cases p == p' <;> cases q == q' <;> cases r == r' <;> rfl
theorem wp_neq_three {o : Oper} {a : Act} {w : World} {K : Act → World → Prop} {Q : Exit → Act → World → Prop} (x y : Operand) (ho : o.op = .binOp .neq 38 x y 38)
    (p q r p' q' r' : ByteArray) (hx : a.eval x = .agg (tv3 p q r)) (hy : a.eval y = .agg (tv3 p' q' r')) (h : K (a.put o.dst (.bool (!same3 p q r p' q' r'))) w) : o.wp Tryz.prog a w K Q := by
  unfold Oper.wp execOp
  unfold tv3 at hx hy
  simp only [ho, hx, hy, Sem.run_bind, run_eqGuard_agg (P := Tryz.prog) w .neq 38 x y _ _ (by kernel_rfl), Result.andThen_ok, run_neq_struct, eq_three]
  exact h

/-- the next step, and is it this one? -/
def nextB (L d : Nat) (line : Int) (f : Bool) : Bool := stC (L : Int) (d : Int) == 0 && sameS (stL (L : Int) (d : Int)) (stF (L : Int) (d : Int)) line f
theorem nextB_iff {L d : Nat} (h1 : 1 ≤ L) (h64 : L ≤ 64) (line : Int) (f : Bool) : nextB L d line f = true ↔ d < 2 * L ∧ line = ((stepC L d).1 : Nat) ∧ f = (stepC L d).2 := by
  unfold nextB stC stL stF
  by_cases hd : d < 2 * L
  · have hs : IsStep (L : Int) (d : Int) := ⟨⟨by omega, by omega⟩, by omega, by omega⟩
    rw [if_pos hs, if_pos hs, if_pos hs, Bool.and_eq_true, sameS_iff]
    simp only [Int.toNat_natCast]
    constructor
    · rintro ⟨_, h2, h3⟩; exact ⟨hd, h2.symm, h3.symm⟩
    · rintro ⟨_, h2, h3⟩; exact ⟨rfl, h2.symm, h3.symm⟩
  · have hs : ¬ IsStep (L : Int) (d : Int) := fun h => by obtain ⟨_, _, h3⟩ := h; omega
    rw [if_neg hs]
    simp [hd]
theorem fog_next {L d n : Nat} (hd : d < 2 * L) (h : stepC L d = (n, true)) : afterC L d n = 1 := by
  have h1 := place_step hd
  rw [h] at h1
  have h3 : placeC L n true = d := h1.1
  have h2 := foggy_first L n
  unfold afterC
  rw [if_neg (by omega), if_pos (by omega)]
/-- a line that is to be fine lies as it was made foggy -/
theorem AbsC.pages {s : St} {ls : List Ln} (h : AbsC s ls) (hm : s.mode ≠ 1) (hw : WfSt s) {n : Nat} (hd : s.done < 2 * s.L) (hs : stepC s.L s.done = (n, true)) : (lnAt ls n).p = pageAt s (3 * n) ∧ (lnAt ls n).q = pageAt s (3 * n + 1) ∧ (lnAt ls n).r = pageAt s (3 * n + 2) := by
  have hn : n < s.L := by have := (place_step hd).2; rw [hs] at this; exact this
  have hm2 : s.mode = 2 := by
    rcases hw.mode with h0 | h0 | h0
    · rw [h.zero h0] at hs; cases hs
    · exact absurd h0 hm
    · exact h0
  have hf := fog_next hd hs
  have key : ∀ t, t < 3 → (lnAt ls n).pt t = pageAt s (3 * n + t) := by
    intro t ht
    rw [(h.all hm n t hn ht).1]
    exact if_neg (h.fog hm2 n t hn ht hf)
  exact ⟨key 0 (by omega), key 1 (by omega), key 2 (by omega)⟩
theorem three_at {w : World} {b : Nat} {p q r : ByteArray} {t : TypeId} (h : Blk w b (tv3 p q r) t) : ∀ j, j < [p, q, r].length → w.cell? ⟨b, j, none⟩ = some (.string ([p, q, r].getD j ByteArray.empty)) := by
  intro j hj
  rw [h.cell j]
  match j, hj with
  | 0, _ => rfl
  | 1, _ => rfl
  | 2, _ => rfl
/-- the world while Foggy, Fine go on -/
structure CF (w0 : World) (o g cap : Nat) (s : St) (ls : List Ln) (p q r : ByteArray) (x k a b : Int) (w : World) : Prop where
  code : CodeAt w o g cap s ls
  pgs : Blk w w0.heap.size (tv3 p q r) 38
  how : Blk w (w0.heap.size + 1) (fv x k a b) 40
  low : Below w0.heap.size w0 w
theorem CF.call {w0 w w' : World} {o g cap : Nat} {s : St} {ls : List Ln} {p q r : ByteArray} {x k a b : Int} (h : CF w0 o g cap s ls p q r x k a b w) (hb : Below w.heap.size w w') : CF w0 o g cap s ls p q r x k a b w' :=
  ⟨h.code.after hb, h.pgs.after hb, h.how.after hb, h.low.trans (hb.mono h.low.size)⟩
theorem CF.first {w : World} {o g cap : Nat} {s : St} {ls : List Ln} (p q r : ByteArray) (x k a b : Int) (hc : CodeAt w o g cap s ls) : CF w o g cap s ls p q r x k a b ((w.alloc (.cells (tv3 p q r) 38)).alloc (.cells (fv x k a b) 40)) := by
  have hb2 : Below w.heap.size w ((w.alloc (.cells (tv3 p q r) 38)).alloc (.cells (fv x k a b) 40)) := ((Below.refl _ _).alloc (Nat.le_refl _) _).alloc (by simp) _
  refine ⟨hc.after hb2, (Blk.new w _ _).alloc _, ?_, hb2⟩
  have h := Blk.new (w.alloc (.cells (tv3 p q r) 38)) (fv x k a b) 40
  rwa [World.size_alloc] at h
theorem CF.takes {w0 w : World} {o g cap : Nat} {s : St} {ls : List Ln} {p q r : ByteArray} {x k a b : Int} (h : CF w0 o g cap s ls p q r x k a b w) (hw : WfSt s) :
    Calls Tryz.prog 92 #[.pointer (some ⟨o, 0, none⟩), .int .i64 2, .slice (some ⟨w0.heap.size, 0, none⟩) 3 3] w fun e w' => e = .returned (.bool (takesA s.mode 2 s.bad s.torn (blankS s.Y) [p, q, r])) ∧ Below w.heap.size w w' :=
  ce_takes o s.L g cap (blankS s.Y) s.mode s.done s.slc s.tlc s.bad s.torn 2 [p, q, r] w0.heap.size 3 w h.code.cell (Nat.le_of_ble_eq_true rfl) (three_at h.pgs) hw.mode (Or.inr rfl)
theorem CF.next {w0 w : World} {o g cap : Nat} {s : St} {ls : List Ln} {p q r : ByteArray} {x k a b : Int} (h : CF w0 o g cap s ls p q r x k a b w) (line : Int) (f : Bool) :
    Calls Tryz.prog 100 #[.pointer (some ⟨o, 0, none⟩), .agg #[.int .i64 line, .bool f]] w fun e w' => e = .returned (.bool (nextB s.L s.done line f)) ∧ Below w.heap.size w w' :=
  ce_isNext o s.L g cap (blankS s.Y) s.mode s.done s.slc s.tlc s.bad s.torn line f w h.code.cell
theorem CF.step {w0 w : World} {o g cap : Nat} {s : St} {ls : List Ln} {p q r : ByteArray} {x k a b : Int} {f : Bool} (h : CF w0 o g cap s ls p q r x k a b w) (hw : WfSt s) (n : Nat) (hok : TwoOk s (n : Int) p q r f) :
    Calls Tryz.prog 93 #[.pointer (some ⟨o, 0, none⟩), .int .i64 2, .int .i64 (n : Int), .agg (tv3 p q r), .agg (fv x k a b)] w (ActR o g cap (twoSt s (n : Int) p q r f k a b) (.int .i64 (twoC s (n : Int) p q r f k)) w) := by
  have hpc : twoC s (n : Int) p q r f k = endC k := by unfold twoC; rw [if_pos hok]
  have hps : twoSt s (n : Int) p q r f k a b = endSt (put3 (stepSt s 2) (3 * n) p q r k a b 3) k := by unfold twoSt; rw [if_pos hok]; simp
  have hab := h.code.abs.two hw hok k a b
  rw [hpc]
  rw [hps] at hab ⊢
  obtain ⟨k1, k2, k3, k4, k5, k6, k7, k8, k9, k10⟩ := hok
  have hn : n < s.L := by have := (place_step k4).2; omega
  have hcell := h.code.cell
  have hL := hw.l64
  rw [k1, k2] at hcell
  refine (ce_step o s.L g cap (blankS s.Y) s.mode s.done s.slc s.tlc ls n 2 p q r x k a b w hcell h.code.rows h.code.abs.len h.code.ne hn hL (by omega) ⟨takes_size hw k7, takes_size hw k8, takes_size hw k9⟩).mono ?_
  rintro e w4 ⟨rfl, h1, h2, h3⟩
  exact ⟨rfl, ⟨_, CodeAt.of_end (t := put3 (stepSt s 2) (3 * n) p q r k a b 3) h.code.ne h.code.pos h1 h2 rfl rfl rfl rfl rfl rfl k1 k2 hab⟩, h3⟩
theorem ActR.from {w0 w : World} {o g cap : Nat} {s : St} {v : Value} {e : Ending} {w' : World} (h : ActR o g cap s v w e w') (hb : Below w0.heap.size w0 w) : ActR o g cap s v w0 e w' :=
  ⟨h.1, h.2.1, (Only.of_below (F := FF o g) hb).trans h.2.2 (fun _ hk => Or.inl hk)⟩

set_option maxHeartbeats 1000000 in
theorem ce_foggy0 (o g cap : Nat) (s : St) (ls : List Ln) (line : Int) (p q r : ByteArray) (x k a b : Int) (w : World) (hw : WfSt s) (hc : CodeAt w o g cap s ls) :
    Calls Tryz.prog 56 #[.pointer (some ⟨o, 0, none⟩), .int .i64 line, .agg (tv3 p q r), .agg (fv x k a b)] w (ActR o g cap (twoSt s line p q r false k a b) (.int .i64 (twoC s line p q r false k)) w) := by
  have hT := takesA_three hw p q r
  have hN := nextB_iff (d := s.done) hw.l1 hw.l64 line false
  obtain ⟨w2, hw2⟩ : ∃ w2, (w.alloc (.cells (tv3 p q r) 38)).alloc (.cells (fv x k a b) 40) = w2 := ⟨_, rfl⟩
  have hcf : CF w o g cap s ls p q r x k a b w2 := by rw [← hw2]; exact CF.first p q r x k a b hc
  have HTK : Hid (∀ w', CF w o g cap s ls p q r x k a b w' → Calls Tryz.prog 92 #[.pointer (some ⟨o, 0, none⟩), .int .i64 2, .slice (some ⟨w.heap.size, 0, none⟩) 3 3] w' fun e w'' => e = .returned (.bool (takesA s.mode 2 s.bad s.torn (blankS s.Y) [p, q, r])) ∧ Below w'.heap.size w' w'') := fun w' h => h.takes hw
  have HNX : Hid (∀ w', CF w o g cap s ls p q r x k a b w' → Calls Tryz.prog 100 #[.pointer (some ⟨o, 0, none⟩), .agg #[.int .i64 line, .bool false]] w' fun e w'' => e = .returned (.bool (nextB s.L s.done line false)) ∧ Below w'.heap.size w' w'') := fun w' h => h.next line false
  obtain ⟨T, hTT⟩ : ∃ T, takesA s.mode 2 s.bad s.torn (blankS s.Y) [p, q, r] = T := ⟨_, rfl⟩
  obtain ⟨N, hNN⟩ : ∃ N, nextB s.L s.done line false = N := ⟨_, rfl⟩
  rw [hTT] at hT
  rw [hNN] at hN
  simp only [hTT] at HTK
  simp only [hNN] at HNX
  have HCF := Lib.hid hcf
  have HW2 := Lib.hid hw2
  have HWF := Lib.hid hw
  clear hTT hNN hcf hw2 hw hc
  by_cases hok : TwoOk s line p q r false
  · have hn : line = ((stepC s.L s.done).1 : Nat) := hok.2.2.2.2.1
    obtain ⟨n, hnn⟩ : ∃ n : Nat, line = (n : Int) := ⟨_, hn⟩
    obtain rfl : T = true := hT.2 ⟨hok.1, hok.2.1, hok.2.2.1, hok.2.2.2.2.2.2.1, hok.2.2.2.2.2.2.2.1, hok.2.2.2.2.2.2.2.2.1⟩
    obtain rfl : N = true := hN.2 ⟨hok.2.2.2.1, hok.2.2.2.2.1, hok.2.2.2.2.2.1⟩
    clear hT hN hn
    subst hnn
    have HOK := Lib.hid hok
    clear hok
    go_enter Tryz.func56, Tryz.ntmps56
    go_wp2_with fail
    rw [HW2.out]
    refine (HTK.out _ HCF.out).mono ?_
    rintro e w3 ⟨rfl, hb3⟩
    have HC3 := Lib.hid (HCF.out.call hb3)
    clear hb3
    go_wp2_with fail
    refine (HNX.out _ HC3.out).mono ?_
    rintro e w4 ⟨rfl, hb4⟩
    have HC4 := Lib.hid (HC3.out.call hb4)
    clear hb4
    go_wp2_with (first
      | (refine wpList_load_row rfl 38 (.tmp 6) rfl w.heap.size rfl 38 (tv3 p q r) (0, 0) _ HC4.out.pgs Tryz.underlying38 rfl size_three ?_)
      | (refine wpList_load_row rfl 40 (.tmp 7) rfl (w.heap.size + 1) rfl 40 (fv x k a b) (0, 0) _ HC4.out.how Tryz.underlying40 rfl size_fault ?_))
    refine (HC4.out.step HWF.out n HOK.out).mono ?_
    rintro e w5 hr
    obtain ⟨rfl, h2, h3⟩ := ActR.from hr HC4.out.low
    have HR := Lib.hid h2
    have HO := Lib.hid h3
    clear hr h2 h3
    go_wp2_with fail
    go_ret
    exact ⟨rfl, HR.out, HO.out⟩
  · have h2 := two_no hok (k := k) (a := a) (b := b)
    rw [h2.1, h2.2]
    cases T with
    | false =>
      clear hT hN hok h2
      go_enter Tryz.func56, Tryz.ntmps56
      go_wp2_with fail
      rw [HW2.out]
      refine (HTK.out _ HCF.out).mono ?_
      rintro e w3 ⟨rfl, hb3⟩
      have HC3 := Lib.hid (HCF.out.call hb3)
      clear hb3
      go_wp2_with fail
      go_ret
      exact ⟨rfl, ⟨ls, HC3.out.code⟩, Only.of_below HC3.out.low⟩
    | true =>
      cases N with
      | false =>
        clear hT hN hok h2
        go_enter Tryz.func56, Tryz.ntmps56
        go_wp2_with fail
        rw [HW2.out]
        refine (HTK.out _ HCF.out).mono ?_
        rintro e w3 ⟨rfl, hb3⟩
        have HC3 := Lib.hid (HCF.out.call hb3)
        clear hb3
        go_wp2_with fail
        refine (HNX.out _ HC3.out).mono ?_
        rintro e w4 ⟨rfl, hb4⟩
        have HC4 := Lib.hid (HC3.out.call hb4)
        clear hb4
        go_wp2_with fail
        go_ret
        exact ⟨rfl, ⟨ls, HC4.out.code⟩, Only.of_below HC4.out.low⟩
      | true =>
        exfalso
        obtain ⟨a1, a2, a3, a4, a5, a6⟩ := hT.1 rfl
        obtain ⟨b1, b2, b3⟩ := hN.1 rfl
        exact hok ⟨a1, a2, a3, b1, b2, b3, a4, a5, a6, fun h => by cases h⟩

/-- what each operation of the region FIA leaves -/
def vsFIA (o B : Nat) : List (Option (Tmp × Value)) :=
  [some (9, .pointer (some ⟨o, 0, none⟩)), some (10, .slice (some ⟨B, 0, none⟩) 3 3), some (11, .bool false), some (12, .bool true), some (13, .bool true), some (14, undef), some (15, undef), some (16, undef), some (17, undef), some (18, undef), some (19, .bool true), some (20, .bool true), some (21, undef), some (22, undef), some (23, undef), some (24, undef), some (25, undef), some (26, undef), some (27, undef), some (28, undef), some (29, undef), some (30, undef), some (31, .bool true)]
/-- the frame while the region FIA runs -/
def BaseFIA (o B : Nat) (line : Int) (a : Act) : Prop := ∃ u : Nat → Value, a = ⟨#[.pointer (some ⟨o, 0, none⟩), .int .i64 line, u 2, u 3, u 4, u 5, .pointer (some ⟨B, 0, none⟩), .pointer (some ⟨B + 1, 0, none⟩), u 8, u 9, u 10, u 11, u 12, u 13, u 14, u 15, u 16, u 17, u 18, u 19, u 20, u 21, u 22, u 23, u 24, u 25, u 26, u 27, u 28, u 29, u 30, u 31, u 32, u 33, u 34, u 35, u 36], []⟩
theorem BaseFIA.of {o B : Nat} {line : Int} (arr : Array Value) (h : arr = #[.pointer (some ⟨o, 0, none⟩), .int .i64 line, arr.getD 2 undef, arr.getD 3 undef, arr.getD 4 undef, arr.getD 5 undef, .pointer (some ⟨B, 0, none⟩), .pointer (some ⟨B + 1, 0, none⟩), arr.getD 8 undef, arr.getD 9 undef, arr.getD 10 undef, arr.getD 11 undef, arr.getD 12 undef, arr.getD 13 undef, arr.getD 14 undef, arr.getD 15 undef, arr.getD 16 undef, arr.getD 17 undef, arr.getD 18 undef, arr.getD 19 undef, arr.getD 20 undef, arr.getD 21 undef, arr.getD 22 undef, arr.getD 23 undef, arr.getD 24 undef, arr.getD 25 undef, arr.getD 26 undef, arr.getD 27 undef, arr.getD 28 undef, arr.getD 29 undef, arr.getD 30 undef, arr.getD 31 undef, arr.getD 32 undef, arr.getD 33 undef, arr.getD 34 undef, arr.getD 35 undef, arr.getD 36 undef]) : BaseFIA o B line ⟨arr, []⟩ := ⟨fun i => arr.getD i undef, by rw [← h]⟩
theorem BaseFIA.put9 {o B : Nat} {line : Int} (a : Act) (v : Value) (h : BaseFIA o B line a) : BaseFIA o B line (a.put (some 9) v) := by
  obtain ⟨u, rfl⟩ := h
  exact ⟨fun i => if i = 9 then v else u i, by kernel_rfl⟩
theorem BaseFIA.put10 {o B : Nat} {line : Int} (a : Act) (v : Value) (h : BaseFIA o B line a) : BaseFIA o B line (a.put (some 10) v) := by
  obtain ⟨u, rfl⟩ := h
  exact ⟨fun i => if i = 10 then v else u i, by kernel_rfl⟩
theorem BaseFIA.put11 {o B : Nat} {line : Int} (a : Act) (v : Value) (h : BaseFIA o B line a) : BaseFIA o B line (a.put (some 11) v) := by
  obtain ⟨u, rfl⟩ := h
  exact ⟨fun i => if i = 11 then v else u i, by kernel_rfl⟩
theorem BaseFIA.put12 {o B : Nat} {line : Int} (a : Act) (v : Value) (h : BaseFIA o B line a) : BaseFIA o B line (a.put (some 12) v) := by
  obtain ⟨u, rfl⟩ := h
  exact ⟨fun i => if i = 12 then v else u i, by kernel_rfl⟩
theorem BaseFIA.put13 {o B : Nat} {line : Int} (a : Act) (v : Value) (h : BaseFIA o B line a) : BaseFIA o B line (a.put (some 13) v) := by
  obtain ⟨u, rfl⟩ := h
  exact ⟨fun i => if i = 13 then v else u i, by kernel_rfl⟩
theorem BaseFIA.put14 {o B : Nat} {line : Int} (a : Act) (v : Value) (h : BaseFIA o B line a) : BaseFIA o B line (a.put (some 14) v) := by
  obtain ⟨u, rfl⟩ := h
  exact ⟨fun i => if i = 14 then v else u i, by kernel_rfl⟩
theorem BaseFIA.put15 {o B : Nat} {line : Int} (a : Act) (v : Value) (h : BaseFIA o B line a) : BaseFIA o B line (a.put (some 15) v) := by
  obtain ⟨u, rfl⟩ := h
  exact ⟨fun i => if i = 15 then v else u i, by kernel_rfl⟩
theorem BaseFIA.put16 {o B : Nat} {line : Int} (a : Act) (v : Value) (h : BaseFIA o B line a) : BaseFIA o B line (a.put (some 16) v) := by
  obtain ⟨u, rfl⟩ := h
  exact ⟨fun i => if i = 16 then v else u i, by kernel_rfl⟩
theorem BaseFIA.put17 {o B : Nat} {line : Int} (a : Act) (v : Value) (h : BaseFIA o B line a) : BaseFIA o B line (a.put (some 17) v) := by
  obtain ⟨u, rfl⟩ := h
  exact ⟨fun i => if i = 17 then v else u i, by kernel_rfl⟩
theorem BaseFIA.put18 {o B : Nat} {line : Int} (a : Act) (v : Value) (h : BaseFIA o B line a) : BaseFIA o B line (a.put (some 18) v) := by
  obtain ⟨u, rfl⟩ := h
  exact ⟨fun i => if i = 18 then v else u i, by kernel_rfl⟩
theorem BaseFIA.put19 {o B : Nat} {line : Int} (a : Act) (v : Value) (h : BaseFIA o B line a) : BaseFIA o B line (a.put (some 19) v) := by
  obtain ⟨u, rfl⟩ := h
  exact ⟨fun i => if i = 19 then v else u i, by kernel_rfl⟩
theorem BaseFIA.put20 {o B : Nat} {line : Int} (a : Act) (v : Value) (h : BaseFIA o B line a) : BaseFIA o B line (a.put (some 20) v) := by
  obtain ⟨u, rfl⟩ := h
  exact ⟨fun i => if i = 20 then v else u i, by kernel_rfl⟩
theorem BaseFIA.put21 {o B : Nat} {line : Int} (a : Act) (v : Value) (h : BaseFIA o B line a) : BaseFIA o B line (a.put (some 21) v) := by
  obtain ⟨u, rfl⟩ := h
  exact ⟨fun i => if i = 21 then v else u i, by kernel_rfl⟩
theorem BaseFIA.put22 {o B : Nat} {line : Int} (a : Act) (v : Value) (h : BaseFIA o B line a) : BaseFIA o B line (a.put (some 22) v) := by
  obtain ⟨u, rfl⟩ := h
  exact ⟨fun i => if i = 22 then v else u i, by kernel_rfl⟩
theorem BaseFIA.put23 {o B : Nat} {line : Int} (a : Act) (v : Value) (h : BaseFIA o B line a) : BaseFIA o B line (a.put (some 23) v) := by
  obtain ⟨u, rfl⟩ := h
  exact ⟨fun i => if i = 23 then v else u i, by kernel_rfl⟩
theorem BaseFIA.put24 {o B : Nat} {line : Int} (a : Act) (v : Value) (h : BaseFIA o B line a) : BaseFIA o B line (a.put (some 24) v) := by
  obtain ⟨u, rfl⟩ := h
  exact ⟨fun i => if i = 24 then v else u i, by kernel_rfl⟩
theorem BaseFIA.put25 {o B : Nat} {line : Int} (a : Act) (v : Value) (h : BaseFIA o B line a) : BaseFIA o B line (a.put (some 25) v) := by
  obtain ⟨u, rfl⟩ := h
  exact ⟨fun i => if i = 25 then v else u i, by kernel_rfl⟩
theorem BaseFIA.put26 {o B : Nat} {line : Int} (a : Act) (v : Value) (h : BaseFIA o B line a) : BaseFIA o B line (a.put (some 26) v) := by
  obtain ⟨u, rfl⟩ := h
  exact ⟨fun i => if i = 26 then v else u i, by kernel_rfl⟩
theorem BaseFIA.put27 {o B : Nat} {line : Int} (a : Act) (v : Value) (h : BaseFIA o B line a) : BaseFIA o B line (a.put (some 27) v) := by
  obtain ⟨u, rfl⟩ := h
  exact ⟨fun i => if i = 27 then v else u i, by kernel_rfl⟩
theorem BaseFIA.put28 {o B : Nat} {line : Int} (a : Act) (v : Value) (h : BaseFIA o B line a) : BaseFIA o B line (a.put (some 28) v) := by
  obtain ⟨u, rfl⟩ := h
  exact ⟨fun i => if i = 28 then v else u i, by kernel_rfl⟩
theorem BaseFIA.put29 {o B : Nat} {line : Int} (a : Act) (v : Value) (h : BaseFIA o B line a) : BaseFIA o B line (a.put (some 29) v) := by
  obtain ⟨u, rfl⟩ := h
  exact ⟨fun i => if i = 29 then v else u i, by kernel_rfl⟩
theorem BaseFIA.put30 {o B : Nat} {line : Int} (a : Act) (v : Value) (h : BaseFIA o B line a) : BaseFIA o B line (a.put (some 30) v) := by
  obtain ⟨u, rfl⟩ := h
  exact ⟨fun i => if i = 30 then v else u i, by kernel_rfl⟩
theorem BaseFIA.put31 {o B : Nat} {line : Int} (a : Act) (v : Value) (h : BaseFIA o B line a) : BaseFIA o B line (a.put (some 31) v) := by
  obtain ⟨u, rfl⟩ := h
  exact ⟨fun i => if i = 31 then v else u i, by kernel_rfl⟩
/-- what each operation of the region FIB leaves -/
def vsFIB (o B : Nat) (line : Int) : List (Option (Tmp × Value)) :=
  [some (9, .pointer (some ⟨o, 0, none⟩)), some (10, .slice (some ⟨B, 0, none⟩) 3 3), some (11, .bool true), some (12, .bool false), some (13, .bool false), some (14, .pointer (some ⟨o, 0, none⟩)), some (15, .int .i64 line), some (16, .agg #[.int .i64 line, .bool true]), some (17, .bool false), some (18, .bool true), some (19, .bool true), some (20, .bool true), some (21, undef), some (22, undef), some (23, undef), some (24, undef), some (25, undef), some (26, undef), some (27, undef), some (28, undef), some (29, undef), some (30, undef), some (31, .bool true)]
/-- the frame while the region FIB runs -/
def BaseFIB (o B : Nat) (line : Int) (a : Act) : Prop := ∃ u : Nat → Value, a = ⟨#[.pointer (some ⟨o, 0, none⟩), .int .i64 line, u 2, u 3, u 4, u 5, .pointer (some ⟨B, 0, none⟩), .pointer (some ⟨B + 1, 0, none⟩), u 8, u 9, u 10, u 11, u 12, u 13, u 14, u 15, u 16, u 17, u 18, u 19, u 20, u 21, u 22, u 23, u 24, u 25, u 26, u 27, u 28, u 29, u 30, u 31, u 32, u 33, u 34, u 35, u 36], []⟩
theorem BaseFIB.of {o B : Nat} {line : Int} (arr : Array Value) (h : arr = #[.pointer (some ⟨o, 0, none⟩), .int .i64 line, arr.getD 2 undef, arr.getD 3 undef, arr.getD 4 undef, arr.getD 5 undef, .pointer (some ⟨B, 0, none⟩), .pointer (some ⟨B + 1, 0, none⟩), arr.getD 8 undef, arr.getD 9 undef, arr.getD 10 undef, arr.getD 11 undef, arr.getD 12 undef, arr.getD 13 undef, arr.getD 14 undef, arr.getD 15 undef, arr.getD 16 undef, arr.getD 17 undef, arr.getD 18 undef, arr.getD 19 undef, arr.getD 20 undef, arr.getD 21 undef, arr.getD 22 undef, arr.getD 23 undef, arr.getD 24 undef, arr.getD 25 undef, arr.getD 26 undef, arr.getD 27 undef, arr.getD 28 undef, arr.getD 29 undef, arr.getD 30 undef, arr.getD 31 undef, arr.getD 32 undef, arr.getD 33 undef, arr.getD 34 undef, arr.getD 35 undef, arr.getD 36 undef]) : BaseFIB o B line ⟨arr, []⟩ := ⟨fun i => arr.getD i undef, by rw [← h]⟩
theorem BaseFIB.put9 {o B : Nat} {line : Int} (a : Act) (v : Value) (h : BaseFIB o B line a) : BaseFIB o B line (a.put (some 9) v) := by
  obtain ⟨u, rfl⟩ := h
  exact ⟨fun i => if i = 9 then v else u i, by kernel_rfl⟩
theorem BaseFIB.put10 {o B : Nat} {line : Int} (a : Act) (v : Value) (h : BaseFIB o B line a) : BaseFIB o B line (a.put (some 10) v) := by
  obtain ⟨u, rfl⟩ := h
  exact ⟨fun i => if i = 10 then v else u i, by kernel_rfl⟩
theorem BaseFIB.put11 {o B : Nat} {line : Int} (a : Act) (v : Value) (h : BaseFIB o B line a) : BaseFIB o B line (a.put (some 11) v) := by
  obtain ⟨u, rfl⟩ := h
  exact ⟨fun i => if i = 11 then v else u i, by kernel_rfl⟩
theorem BaseFIB.put12 {o B : Nat} {line : Int} (a : Act) (v : Value) (h : BaseFIB o B line a) : BaseFIB o B line (a.put (some 12) v) := by
  obtain ⟨u, rfl⟩ := h
  exact ⟨fun i => if i = 12 then v else u i, by kernel_rfl⟩
theorem BaseFIB.put13 {o B : Nat} {line : Int} (a : Act) (v : Value) (h : BaseFIB o B line a) : BaseFIB o B line (a.put (some 13) v) := by
  obtain ⟨u, rfl⟩ := h
  exact ⟨fun i => if i = 13 then v else u i, by kernel_rfl⟩
theorem BaseFIB.put14 {o B : Nat} {line : Int} (a : Act) (v : Value) (h : BaseFIB o B line a) : BaseFIB o B line (a.put (some 14) v) := by
  obtain ⟨u, rfl⟩ := h
  exact ⟨fun i => if i = 14 then v else u i, by kernel_rfl⟩
theorem BaseFIB.put15 {o B : Nat} {line : Int} (a : Act) (v : Value) (h : BaseFIB o B line a) : BaseFIB o B line (a.put (some 15) v) := by
  obtain ⟨u, rfl⟩ := h
  exact ⟨fun i => if i = 15 then v else u i, by kernel_rfl⟩
theorem BaseFIB.put16 {o B : Nat} {line : Int} (a : Act) (v : Value) (h : BaseFIB o B line a) : BaseFIB o B line (a.put (some 16) v) := by
  obtain ⟨u, rfl⟩ := h
  exact ⟨fun i => if i = 16 then v else u i, by kernel_rfl⟩
theorem BaseFIB.put17 {o B : Nat} {line : Int} (a : Act) (v : Value) (h : BaseFIB o B line a) : BaseFIB o B line (a.put (some 17) v) := by
  obtain ⟨u, rfl⟩ := h
  exact ⟨fun i => if i = 17 then v else u i, by kernel_rfl⟩
theorem BaseFIB.put18 {o B : Nat} {line : Int} (a : Act) (v : Value) (h : BaseFIB o B line a) : BaseFIB o B line (a.put (some 18) v) := by
  obtain ⟨u, rfl⟩ := h
  exact ⟨fun i => if i = 18 then v else u i, by kernel_rfl⟩
theorem BaseFIB.put19 {o B : Nat} {line : Int} (a : Act) (v : Value) (h : BaseFIB o B line a) : BaseFIB o B line (a.put (some 19) v) := by
  obtain ⟨u, rfl⟩ := h
  exact ⟨fun i => if i = 19 then v else u i, by kernel_rfl⟩
theorem BaseFIB.put20 {o B : Nat} {line : Int} (a : Act) (v : Value) (h : BaseFIB o B line a) : BaseFIB o B line (a.put (some 20) v) := by
  obtain ⟨u, rfl⟩ := h
  exact ⟨fun i => if i = 20 then v else u i, by kernel_rfl⟩
theorem BaseFIB.put21 {o B : Nat} {line : Int} (a : Act) (v : Value) (h : BaseFIB o B line a) : BaseFIB o B line (a.put (some 21) v) := by
  obtain ⟨u, rfl⟩ := h
  exact ⟨fun i => if i = 21 then v else u i, by kernel_rfl⟩
theorem BaseFIB.put22 {o B : Nat} {line : Int} (a : Act) (v : Value) (h : BaseFIB o B line a) : BaseFIB o B line (a.put (some 22) v) := by
  obtain ⟨u, rfl⟩ := h
  exact ⟨fun i => if i = 22 then v else u i, by kernel_rfl⟩
theorem BaseFIB.put23 {o B : Nat} {line : Int} (a : Act) (v : Value) (h : BaseFIB o B line a) : BaseFIB o B line (a.put (some 23) v) := by
  obtain ⟨u, rfl⟩ := h
  exact ⟨fun i => if i = 23 then v else u i, by kernel_rfl⟩
theorem BaseFIB.put24 {o B : Nat} {line : Int} (a : Act) (v : Value) (h : BaseFIB o B line a) : BaseFIB o B line (a.put (some 24) v) := by
  obtain ⟨u, rfl⟩ := h
  exact ⟨fun i => if i = 24 then v else u i, by kernel_rfl⟩
theorem BaseFIB.put25 {o B : Nat} {line : Int} (a : Act) (v : Value) (h : BaseFIB o B line a) : BaseFIB o B line (a.put (some 25) v) := by
  obtain ⟨u, rfl⟩ := h
  exact ⟨fun i => if i = 25 then v else u i, by kernel_rfl⟩
theorem BaseFIB.put26 {o B : Nat} {line : Int} (a : Act) (v : Value) (h : BaseFIB o B line a) : BaseFIB o B line (a.put (some 26) v) := by
  obtain ⟨u, rfl⟩ := h
  exact ⟨fun i => if i = 26 then v else u i, by kernel_rfl⟩
theorem BaseFIB.put27 {o B : Nat} {line : Int} (a : Act) (v : Value) (h : BaseFIB o B line a) : BaseFIB o B line (a.put (some 27) v) := by
  obtain ⟨u, rfl⟩ := h
  exact ⟨fun i => if i = 27 then v else u i, by kernel_rfl⟩
theorem BaseFIB.put28 {o B : Nat} {line : Int} (a : Act) (v : Value) (h : BaseFIB o B line a) : BaseFIB o B line (a.put (some 28) v) := by
  obtain ⟨u, rfl⟩ := h
  exact ⟨fun i => if i = 28 then v else u i, by kernel_rfl⟩
theorem BaseFIB.put29 {o B : Nat} {line : Int} (a : Act) (v : Value) (h : BaseFIB o B line a) : BaseFIB o B line (a.put (some 29) v) := by
  obtain ⟨u, rfl⟩ := h
  exact ⟨fun i => if i = 29 then v else u i, by kernel_rfl⟩
theorem BaseFIB.put30 {o B : Nat} {line : Int} (a : Act) (v : Value) (h : BaseFIB o B line a) : BaseFIB o B line (a.put (some 30) v) := by
  obtain ⟨u, rfl⟩ := h
  exact ⟨fun i => if i = 30 then v else u i, by kernel_rfl⟩
theorem BaseFIB.put31 {o B : Nat} {line : Int} (a : Act) (v : Value) (h : BaseFIB o B line a) : BaseFIB o B line (a.put (some 31) v) := by
  obtain ⟨u, rfl⟩ := h
  exact ⟨fun i => if i = 31 then v else u i, by kernel_rfl⟩
/-- what each operation of the region FIC leaves -/
def vsFIC (o g cap B n : Nat) (s : St) (ls : List Ln) (p q r : ByteArray) (E : Bool) : List (Option (Tmp × Value)) :=
  [some (9, .pointer (some ⟨o, 0, none⟩)), some (10, .slice (some ⟨B, 0, none⟩) 3 3), some (11, .bool true), some (12, .bool false), some (13, .bool false), some (14, .pointer (some ⟨o, 0, none⟩)), some (15, .int .i64 (n : Int)), some (16, .agg #[.int .i64 (n : Int), .bool true]), some (17, .bool true), some (18, .bool false), some (19, .bool false), some (20, .bool false), some (21, .agg (tv3 p q r)), some (22, .pointer (some ⟨o, 0, none⟩)), some (23, .pointer (some ⟨o, 0, none⟩)), some (24, .pointer (some ⟨o, 0, none⟩)), some (25, .slice (some ⟨g, 0, none⟩) s.L cap), some (26, .int .i64 (n : Int)), some (27, .pointer (some ⟨g, n * 4, none⟩)), some (28, .pointer (some ⟨g, n * 4, none⟩)), some (29, .agg #[.string (lnAt ls n).p, .string (lnAt ls n).q, .string (lnAt ls n).r]), some (30, .bool (!E)), some (31, .bool (!E))]
/-- the frame while the region FIC runs -/
def BaseFIC (o B n : Nat) (a : Act) : Prop := ∃ u : Nat → Value, a = ⟨#[.pointer (some ⟨o, 0, none⟩), .int .i64 (n : Int), u 2, u 3, u 4, u 5, .pointer (some ⟨B, 0, none⟩), .pointer (some ⟨B + 1, 0, none⟩), u 8, u 9, u 10, u 11, u 12, u 13, u 14, u 15, u 16, u 17, u 18, u 19, u 20, u 21, u 22, u 23, u 24, u 25, u 26, u 27, u 28, u 29, u 30, u 31, u 32, u 33, u 34, u 35, u 36], []⟩
theorem BaseFIC.of {o B n : Nat} (arr : Array Value) (h : arr = #[.pointer (some ⟨o, 0, none⟩), .int .i64 (n : Int), arr.getD 2 undef, arr.getD 3 undef, arr.getD 4 undef, arr.getD 5 undef, .pointer (some ⟨B, 0, none⟩), .pointer (some ⟨B + 1, 0, none⟩), arr.getD 8 undef, arr.getD 9 undef, arr.getD 10 undef, arr.getD 11 undef, arr.getD 12 undef, arr.getD 13 undef, arr.getD 14 undef, arr.getD 15 undef, arr.getD 16 undef, arr.getD 17 undef, arr.getD 18 undef, arr.getD 19 undef, arr.getD 20 undef, arr.getD 21 undef, arr.getD 22 undef, arr.getD 23 undef, arr.getD 24 undef, arr.getD 25 undef, arr.getD 26 undef, arr.getD 27 undef, arr.getD 28 undef, arr.getD 29 undef, arr.getD 30 undef, arr.getD 31 undef, arr.getD 32 undef, arr.getD 33 undef, arr.getD 34 undef, arr.getD 35 undef, arr.getD 36 undef]) : BaseFIC o B n ⟨arr, []⟩ := ⟨fun i => arr.getD i undef, by rw [← h]⟩
theorem BaseFIC.put9 {o B n : Nat} (a : Act) (v : Value) (h : BaseFIC o B n a) : BaseFIC o B n (a.put (some 9) v) := by
  obtain ⟨u, rfl⟩ := h
  exact ⟨fun i => if i = 9 then v else u i, by kernel_rfl⟩
theorem BaseFIC.put10 {o B n : Nat} (a : Act) (v : Value) (h : BaseFIC o B n a) : BaseFIC o B n (a.put (some 10) v) := by
  obtain ⟨u, rfl⟩ := h
  exact ⟨fun i => if i = 10 then v else u i, by kernel_rfl⟩
theorem BaseFIC.put11 {o B n : Nat} (a : Act) (v : Value) (h : BaseFIC o B n a) : BaseFIC o B n (a.put (some 11) v) := by
  obtain ⟨u, rfl⟩ := h
  exact ⟨fun i => if i = 11 then v else u i, by kernel_rfl⟩
theorem BaseFIC.put12 {o B n : Nat} (a : Act) (v : Value) (h : BaseFIC o B n a) : BaseFIC o B n (a.put (some 12) v) := by
  obtain ⟨u, rfl⟩ := h
  exact ⟨fun i => if i = 12 then v else u i, by kernel_rfl⟩
theorem BaseFIC.put13 {o B n : Nat} (a : Act) (v : Value) (h : BaseFIC o B n a) : BaseFIC o B n (a.put (some 13) v) := by
  obtain ⟨u, rfl⟩ := h
  exact ⟨fun i => if i = 13 then v else u i, by kernel_rfl⟩
theorem BaseFIC.put14 {o B n : Nat} (a : Act) (v : Value) (h : BaseFIC o B n a) : BaseFIC o B n (a.put (some 14) v) := by
  obtain ⟨u, rfl⟩ := h
  exact ⟨fun i => if i = 14 then v else u i, by kernel_rfl⟩
theorem BaseFIC.put15 {o B n : Nat} (a : Act) (v : Value) (h : BaseFIC o B n a) : BaseFIC o B n (a.put (some 15) v) := by
  obtain ⟨u, rfl⟩ := h
  exact ⟨fun i => if i = 15 then v else u i, by kernel_rfl⟩
theorem BaseFIC.put16 {o B n : Nat} (a : Act) (v : Value) (h : BaseFIC o B n a) : BaseFIC o B n (a.put (some 16) v) := by
  obtain ⟨u, rfl⟩ := h
  exact ⟨fun i => if i = 16 then v else u i, by kernel_rfl⟩
theorem BaseFIC.put17 {o B n : Nat} (a : Act) (v : Value) (h : BaseFIC o B n a) : BaseFIC o B n (a.put (some 17) v) := by
  obtain ⟨u, rfl⟩ := h
  exact ⟨fun i => if i = 17 then v else u i, by kernel_rfl⟩
theorem BaseFIC.put18 {o B n : Nat} (a : Act) (v : Value) (h : BaseFIC o B n a) : BaseFIC o B n (a.put (some 18) v) := by
  obtain ⟨u, rfl⟩ := h
  exact ⟨fun i => if i = 18 then v else u i, by kernel_rfl⟩
theorem BaseFIC.put19 {o B n : Nat} (a : Act) (v : Value) (h : BaseFIC o B n a) : BaseFIC o B n (a.put (some 19) v) := by
  obtain ⟨u, rfl⟩ := h
  exact ⟨fun i => if i = 19 then v else u i, by kernel_rfl⟩
theorem BaseFIC.put20 {o B n : Nat} (a : Act) (v : Value) (h : BaseFIC o B n a) : BaseFIC o B n (a.put (some 20) v) := by
  obtain ⟨u, rfl⟩ := h
  exact ⟨fun i => if i = 20 then v else u i, by kernel_rfl⟩
theorem BaseFIC.put21 {o B n : Nat} (a : Act) (v : Value) (h : BaseFIC o B n a) : BaseFIC o B n (a.put (some 21) v) := by
  obtain ⟨u, rfl⟩ := h
  exact ⟨fun i => if i = 21 then v else u i, by kernel_rfl⟩
theorem BaseFIC.put22 {o B n : Nat} (a : Act) (v : Value) (h : BaseFIC o B n a) : BaseFIC o B n (a.put (some 22) v) := by
  obtain ⟨u, rfl⟩ := h
  exact ⟨fun i => if i = 22 then v else u i, by kernel_rfl⟩
theorem BaseFIC.put23 {o B n : Nat} (a : Act) (v : Value) (h : BaseFIC o B n a) : BaseFIC o B n (a.put (some 23) v) := by
  obtain ⟨u, rfl⟩ := h
  exact ⟨fun i => if i = 23 then v else u i, by kernel_rfl⟩
theorem BaseFIC.put24 {o B n : Nat} (a : Act) (v : Value) (h : BaseFIC o B n a) : BaseFIC o B n (a.put (some 24) v) := by
  obtain ⟨u, rfl⟩ := h
  exact ⟨fun i => if i = 24 then v else u i, by kernel_rfl⟩
theorem BaseFIC.put25 {o B n : Nat} (a : Act) (v : Value) (h : BaseFIC o B n a) : BaseFIC o B n (a.put (some 25) v) := by
  obtain ⟨u, rfl⟩ := h
  exact ⟨fun i => if i = 25 then v else u i, by kernel_rfl⟩
theorem BaseFIC.put26 {o B n : Nat} (a : Act) (v : Value) (h : BaseFIC o B n a) : BaseFIC o B n (a.put (some 26) v) := by
  obtain ⟨u, rfl⟩ := h
  exact ⟨fun i => if i = 26 then v else u i, by kernel_rfl⟩
theorem BaseFIC.put27 {o B n : Nat} (a : Act) (v : Value) (h : BaseFIC o B n a) : BaseFIC o B n (a.put (some 27) v) := by
  obtain ⟨u, rfl⟩ := h
  exact ⟨fun i => if i = 27 then v else u i, by kernel_rfl⟩
theorem BaseFIC.put28 {o B n : Nat} (a : Act) (v : Value) (h : BaseFIC o B n a) : BaseFIC o B n (a.put (some 28) v) := by
  obtain ⟨u, rfl⟩ := h
  exact ⟨fun i => if i = 28 then v else u i, by kernel_rfl⟩
theorem BaseFIC.put29 {o B n : Nat} (a : Act) (v : Value) (h : BaseFIC o B n a) : BaseFIC o B n (a.put (some 29) v) := by
  obtain ⟨u, rfl⟩ := h
  exact ⟨fun i => if i = 29 then v else u i, by kernel_rfl⟩
theorem BaseFIC.put30 {o B n : Nat} (a : Act) (v : Value) (h : BaseFIC o B n a) : BaseFIC o B n (a.put (some 30) v) := by
  obtain ⟨u, rfl⟩ := h
  exact ⟨fun i => if i = 30 then v else u i, by kernel_rfl⟩
theorem BaseFIC.put31 {o B n : Nat} (a : Act) (v : Value) (h : BaseFIC o B n a) : BaseFIC o B n (a.put (some 31) v) := by
  obtain ⟨u, rfl⟩ := h
  exact ⟨fun i => if i = 31 then v else u i, by kernel_rfl⟩
set_option maxHeartbeats 2000000 in
theorem ce_fine0 (o g cap : Nat) (s : St) (ls : List Ln) (line : Int) (p q r : ByteArray) (x k a b : Int) (w : World) (hw : WfSt s) (hc : CodeAt w o g cap s ls) :
    Calls Tryz.prog 58 #[.pointer (some ⟨o, 0, none⟩), .int .i64 line, .agg (tv3 p q r), .agg (fv x k a b)] w (ActR o g cap (twoSt s line p q r true k a b) (.int .i64 (twoC s line p q r true k)) w) := by
  have hT := takesA_three hw p q r
  have hN := nextB_iff (d := s.done) hw.l1 hw.l64 line true
  obtain ⟨w2, hw2⟩ : ∃ w2, (w.alloc (.cells (tv3 p q r) 38)).alloc (.cells (fv x k a b) 40) = w2 := ⟨_, rfl⟩
  have hcf : CF w o g cap s ls p q r x k a b w2 := by rw [← hw2]; exact CF.first p q r x k a b hc
  have HTK : Hid (∀ w', CF w o g cap s ls p q r x k a b w' → Calls Tryz.prog 92 #[.pointer (some ⟨o, 0, none⟩), .int .i64 2, .slice (some ⟨w.heap.size, 0, none⟩) 3 3] w' fun e w'' => e = .returned (.bool (takesA s.mode 2 s.bad s.torn (blankS s.Y) [p, q, r])) ∧ Below w'.heap.size w' w'') := fun w' h => h.takes hw
  have HNX : Hid (∀ w', CF w o g cap s ls p q r x k a b w' → Calls Tryz.prog 100 #[.pointer (some ⟨o, 0, none⟩), .agg #[.int .i64 line, .bool true]] w' fun e w'' => e = .returned (.bool (nextB s.L s.done line true)) ∧ Below w'.heap.size w' w'') := fun w' h => h.next line true
  obtain ⟨T, hTT⟩ : ∃ T, takesA s.mode 2 s.bad s.torn (blankS s.Y) [p, q, r] = T := ⟨_, rfl⟩
  obtain ⟨N, hNN⟩ : ∃ N, nextB s.L s.done line true = N := ⟨_, rfl⟩
  rw [hTT] at hT
  rw [hNN] at hN
  simp only [hTT] at HTK
  simp only [hNN] at HNX
  have hHC0 := hcf
  have HC0 := Lib.hid hHC0
  have HW2 := Lib.hid hw2
  have HWF := Lib.hid hw
  have HAB := Lib.hid hc.abs
  clear hTT hNN hcf hw2 hw hc hHC0
  cases T with
  | false =>
    have hno : ¬ TwoOk s line p q r true := fun h => by
      have := hT.2 ⟨h.1, h.2.1, h.2.2.1, h.2.2.2.2.2.2.1, h.2.2.2.2.2.2.2.1, h.2.2.2.2.2.2.2.2.1⟩
      cases this
    have h2 := two_no hno (k := k) (a := a) (b := b)
    rw [h2.1, h2.2]
    clear hT hN hno h2 HNX
    go_enter Tryz.func58, Tryz.ntmps58
    go_wp2_with fail
    change Code.wp _ _ _ _ ((w.alloc (.cells (tv3 p q r) 38)).alloc (.cells (fv x k a b) 40))
    rw [HW2.out]
    rename_i K0 hK0
    refine wp_region_list3 (SV (vsFIA o w.heap.size) []) (BaseFIA o w.heap.size line) (CF w o g cap s ls p q r x k a b) (Goes) (RV (vsFIA o w.heap.size) (fun _ _ _ => False)) rfl (by kernel_rfl) (RV.ext no_specialC) ?_ (HC0.out.call (Below.refl _ _).drew) (BaseFIA.of _ (by kernel_rfl)) ?_ ?_
    · exact ⟨BaseFIA.put9, BaseFIA.put10, BaseFIA.put11, BaseFIA.put12, BaseFIA.put13, BaseFIA.put14, BaseFIA.put15, BaseFIA.put16, BaseFIA.put17, BaseFIA.put18, BaseFIA.put19, BaseFIA.put20, BaseFIA.put21, BaseFIA.put22, BaseFIA.put23, BaseFIA.put24, BaseFIA.put25, BaseFIA.put26, BaseFIA.put27, BaseFIA.put28, BaseFIA.put29, BaseFIA.put30, BaseFIA.put31, trivial⟩
    · refine ⟨?_, ?_, ?_, ?_, ?_, ?_, ?_, ?_, ?_, ?_, ?_, ?_, ?_, ?_, ?_, ?_, ?_, ?_, ?_, ?_, ?_, ?_, ?_, trivial⟩
      all_goals
        intro a w' hC hB hR
        obtain ⟨u, rfl⟩ := hB
        have HC := Lib.hid hC
        clear hC
        clear hK0
      · clear hR
        refine if_yes (by kernel_rfl) ?_
        unfold Oper.wp
        go_simp
        exact ⟨.pointer (some ⟨o, 0, none⟩), rfl, HC.out, Below.refl _ _, rfl⟩
      · clear hR
        refine if_yes (by kernel_rfl) ?_
        unfold Oper.wp
        go_simp
        exact ⟨.slice (some ⟨w.heap.size, 0, none⟩) 3 3, rfl, HC.out, Below.refl _ _, rfl⟩
      · have h9 : u 9 = .pointer (some ⟨o, 0, none⟩) := hR ⟨0, .data⟩ (by simp) rfl
        have h10 : u 10 = .slice (some ⟨w.heap.size, 0, none⟩) 3 3 := hR ⟨1, .data⟩ (by simp) rfl
        clear hR
        simp only [h9, h10]
        clear h9 h10
        refine if_yes (by kernel_rfl) ?_
        unfold Oper.wp
        go_simp
        refine (HTK.out _ HC.out).mono ?_
        rintro e w2 ⟨rfl, hb2⟩
        exact ⟨.bool false, rfl, HC.out.call hb2, hb2, rfl⟩
      · have h11 : u 11 = .bool false := hR ⟨2, .data⟩ (by simp) rfl
        clear hR
        simp only [h11]
        clear h11
        refine if_yes (by kernel_rfl) ?_
        unfold Oper.wp
        go_simp
        exact ⟨.bool true, rfl, HC.out, Below.refl _ _, rfl⟩
      · have h12 : u 12 = .bool true := hR ⟨3, .data⟩ (by simp) rfl
        clear hR
        simp only [h12]
        clear h12
        refine if_yes (by kernel_rfl) ?_
        unfold Oper.wp
        go_simp
        exact ⟨.bool true, rfl, HC.out, Below.refl _ _, rfl⟩
      · have g13 : u 13 = .bool true := hR ⟨4, .guard⟩ (by simp) rfl
        clear hR
        simp only [g13]
        clear g13
        refine if_no (by kernel_rfl) ?_
        exact ⟨undef, rfl, HC.out, Below.refl _ _, rfl⟩
      · have g13 : u 13 = .bool true := hR ⟨4, .guard⟩ (by simp) rfl
        clear hR
        simp only [g13]
        clear g13
        refine if_no (by kernel_rfl) ?_
        exact ⟨undef, rfl, HC.out, Below.refl _ _, rfl⟩
      · have g13 : u 13 = .bool true := hR ⟨4, .guard⟩ (by simp) rfl
        have h15 : u 15 = undef := hR ⟨6, .data⟩ (by simp) rfl
        clear hR
        simp only [g13, h15]
        clear g13 h15
        refine if_no (by kernel_rfl) ?_
        exact ⟨undef, rfl, HC.out, Below.refl _ _, rfl⟩
      · have g13 : u 13 = .bool true := hR ⟨4, .guard⟩ (by simp) rfl
        have h14 : u 14 = undef := hR ⟨5, .data⟩ (by simp) rfl
        have h16 : u 16 = undef := hR ⟨7, .data⟩ (by simp) rfl
        clear hR
        simp only [g13, h14, h16]
        clear g13 h14 h16
        refine if_no (by kernel_rfl) ?_
        exact ⟨undef, rfl, HC.out, Below.refl _ _, rfl⟩
      · have g13 : u 13 = .bool true := hR ⟨4, .guard⟩ (by simp) rfl
        have h17 : u 17 = undef := hR ⟨8, .data⟩ (by simp) rfl
        clear hR
        simp only [g13, h17]
        clear g13 h17
        refine if_no (by kernel_rfl) ?_
        exact ⟨undef, rfl, HC.out, Below.refl _ _, rfl⟩
      · have h13 : u 13 = .bool true := hR ⟨4, .data⟩ (by simp) rfl
        have h18 : u 18 = undef := hR ⟨9, .data⟩ (by simp) rfl
        clear hR
        simp only [h13, h18]
        clear h13 h18
        refine if_yes (by kernel_rfl) ?_
        unfold Oper.wp
        go_simp
        exact ⟨.bool true, rfl, HC.out, Below.refl _ _, rfl⟩
      · have h19 : u 19 = .bool true := hR ⟨10, .data⟩ (by simp) rfl
        clear hR
        simp only [h19]
        clear h19
        refine if_yes (by kernel_rfl) ?_
        unfold Oper.wp
        go_simp
        exact ⟨.bool true, rfl, HC.out, Below.refl _ _, rfl⟩
      · have g20 : u 20 = .bool true := hR ⟨11, .guard⟩ (by simp) rfl
        clear hR
        simp only [g20]
        clear g20
        refine if_no (by kernel_rfl) ?_
        exact ⟨undef, rfl, HC.out, Below.refl _ _, rfl⟩
      · have g20 : u 20 = .bool true := hR ⟨11, .guard⟩ (by simp) rfl
        clear hR
        simp only [g20]
        clear g20
        refine if_no (by kernel_rfl) ?_
        exact ⟨undef, rfl, HC.out, Below.refl _ _, rfl⟩
      · have g20 : u 20 = .bool true := hR ⟨11, .guard⟩ (by simp) rfl
        have h22 : u 22 = undef := hR ⟨13, .data⟩ (by simp) rfl
        clear hR
        simp only [g20, h22]
        clear g20 h22
        refine if_no (by kernel_rfl) ?_
        exact ⟨undef, rfl, HC.out, Below.refl _ _, rfl⟩
      · have g20 : u 20 = .bool true := hR ⟨11, .guard⟩ (by simp) rfl
        have h23 : u 23 = undef := hR ⟨14, .data⟩ (by simp) rfl
        clear hR
        simp only [g20, h23]
        clear g20 h23
        refine if_no (by kernel_rfl) ?_
        exact ⟨undef, rfl, HC.out, Below.refl _ _, rfl⟩
      · have g20 : u 20 = .bool true := hR ⟨11, .guard⟩ (by simp) rfl
        have h24 : u 24 = undef := hR ⟨15, .data⟩ (by simp) rfl
        clear hR
        simp only [g20, h24]
        clear g20 h24
        refine if_no (by kernel_rfl) ?_
        exact ⟨undef, rfl, HC.out, Below.refl _ _, rfl⟩
      · have g20 : u 20 = .bool true := hR ⟨11, .guard⟩ (by simp) rfl
        clear hR
        simp only [g20]
        clear g20
        refine if_no (by kernel_rfl) ?_
        exact ⟨undef, rfl, HC.out, Below.refl _ _, rfl⟩
      · have g20 : u 20 = .bool true := hR ⟨11, .guard⟩ (by simp) rfl
        have h25 : u 25 = undef := hR ⟨16, .data⟩ (by simp) rfl
        have h26 : u 26 = undef := hR ⟨17, .data⟩ (by simp) rfl
        clear hR
        simp only [g20, h25, h26]
        clear g20 h25 h26
        refine if_no (by kernel_rfl) ?_
        exact ⟨undef, rfl, HC.out, Below.refl _ _, rfl⟩
      · have g20 : u 20 = .bool true := hR ⟨11, .guard⟩ (by simp) rfl
        have h27 : u 27 = undef := hR ⟨18, .data⟩ (by simp) rfl
        clear hR
        simp only [g20, h27]
        clear g20 h27
        refine if_no (by kernel_rfl) ?_
        exact ⟨undef, rfl, HC.out, Below.refl _ _, rfl⟩
      · have g20 : u 20 = .bool true := hR ⟨11, .guard⟩ (by simp) rfl
        have h28 : u 28 = undef := hR ⟨19, .data⟩ (by simp) rfl
        clear hR
        simp only [g20, h28]
        clear g20 h28
        refine if_no (by kernel_rfl) ?_
        exact ⟨undef, rfl, HC.out, Below.refl _ _, rfl⟩
      · have g20 : u 20 = .bool true := hR ⟨11, .guard⟩ (by simp) rfl
        have h21 : u 21 = undef := hR ⟨12, .data⟩ (by simp) rfl
        have h29 : u 29 = undef := hR ⟨20, .data⟩ (by simp) rfl
        clear hR
        simp only [g20, h21, h29]
        clear g20 h21 h29
        refine if_no (by kernel_rfl) ?_
        exact ⟨undef, rfl, HC.out, Below.refl _ _, rfl⟩
      · have h20 : u 20 = .bool true := hR ⟨11, .data⟩ (by simp) rfl
        have h30 : u 30 = undef := hR ⟨21, .data⟩ (by simp) rfl
        clear hR
        simp only [h20, h30]
        clear h20 h30
        refine if_yes (by kernel_rfl) ?_
        unfold Oper.wp
        go_simp
        exact ⟨.bool true, rfl, HC.out, Below.refl _ _, rfl⟩
    · intro a' w' hC hB hR
      have h31 := hR 22 (by decide)
      obtain ⟨u, rfl⟩ := hB
      have h31 : u 31 = .bool true := h31
      simp only [h31]
      have HC3 := Lib.hid hC
      clear hR h31 hC HC0 HTK
      go_wp2_with fail
      go_ret
      exact ⟨rfl, ⟨ls, HC3.out.code⟩, Only.of_below HC3.out.low⟩
  | true =>
    cases N with
    | false =>
      have hno : ¬ TwoOk s line p q r true := fun h => by
        have := hN.2 ⟨h.2.2.2.1, h.2.2.2.2.1, h.2.2.2.2.2.1⟩
        cases this
      have h2 := two_no hno (k := k) (a := a) (b := b)
      rw [h2.1, h2.2]
      clear hT hN hno h2
      go_enter Tryz.func58, Tryz.ntmps58
      go_wp2_with fail
      change Code.wp _ _ _ _ ((w.alloc (.cells (tv3 p q r) 38)).alloc (.cells (fv x k a b) 40))
      rw [HW2.out]
      rename_i K0 hK0
      refine wp_region_list3 (SV (vsFIB o w.heap.size line) []) (BaseFIB o w.heap.size line) (CF w o g cap s ls p q r x k a b) (Goes) (RV (vsFIB o w.heap.size line) (fun _ _ _ => False)) rfl (by kernel_rfl) (RV.ext no_specialC) ?_ (HC0.out.call (Below.refl _ _).drew) (BaseFIB.of _ (by kernel_rfl)) ?_ ?_
      · exact ⟨BaseFIB.put9, BaseFIB.put10, BaseFIB.put11, BaseFIB.put12, BaseFIB.put13, BaseFIB.put14, BaseFIB.put15, BaseFIB.put16, BaseFIB.put17, BaseFIB.put18, BaseFIB.put19, BaseFIB.put20, BaseFIB.put21, BaseFIB.put22, BaseFIB.put23, BaseFIB.put24, BaseFIB.put25, BaseFIB.put26, BaseFIB.put27, BaseFIB.put28, BaseFIB.put29, BaseFIB.put30, BaseFIB.put31, trivial⟩
      · refine ⟨?_, ?_, ?_, ?_, ?_, ?_, ?_, ?_, ?_, ?_, ?_, ?_, ?_, ?_, ?_, ?_, ?_, ?_, ?_, ?_, ?_, ?_, ?_, trivial⟩
        all_goals
          intro a w' hC hB hR
          obtain ⟨u, rfl⟩ := hB
          have HC := Lib.hid hC
          clear hC
          clear hK0
        · clear hR
          refine if_yes (by kernel_rfl) ?_
          unfold Oper.wp
          go_simp
          exact ⟨.pointer (some ⟨o, 0, none⟩), rfl, HC.out, Below.refl _ _, rfl⟩
        · clear hR
          refine if_yes (by kernel_rfl) ?_
          unfold Oper.wp
          go_simp
          exact ⟨.slice (some ⟨w.heap.size, 0, none⟩) 3 3, rfl, HC.out, Below.refl _ _, rfl⟩
        · have h9 : u 9 = .pointer (some ⟨o, 0, none⟩) := hR ⟨0, .data⟩ (by simp) rfl
          have h10 : u 10 = .slice (some ⟨w.heap.size, 0, none⟩) 3 3 := hR ⟨1, .data⟩ (by simp) rfl
          clear hR
          simp only [h9, h10]
          clear h9 h10
          refine if_yes (by kernel_rfl) ?_
          unfold Oper.wp
          go_simp
          refine (HTK.out _ HC.out).mono ?_
          rintro e w2 ⟨rfl, hb2⟩
          exact ⟨.bool true, rfl, HC.out.call hb2, hb2, rfl⟩
        · have h11 : u 11 = .bool true := hR ⟨2, .data⟩ (by simp) rfl
          clear hR
          simp only [h11]
          clear h11
          refine if_yes (by kernel_rfl) ?_
          unfold Oper.wp
          go_simp
          exact ⟨.bool false, rfl, HC.out, Below.refl _ _, rfl⟩
        · have h12 : u 12 = .bool false := hR ⟨3, .data⟩ (by simp) rfl
          clear hR
          simp only [h12]
          clear h12
          refine if_yes (by kernel_rfl) ?_
          unfold Oper.wp
          go_simp
          exact ⟨.bool false, rfl, HC.out, Below.refl _ _, rfl⟩
        · have g13 : u 13 = .bool false := hR ⟨4, .guard⟩ (by simp) rfl
          clear hR
          simp only [g13]
          clear g13
          refine if_yes (by kernel_rfl) ?_
          unfold Oper.wp
          go_simp
          exact ⟨.pointer (some ⟨o, 0, none⟩), rfl, HC.out, Below.refl _ _, rfl⟩
        · have g13 : u 13 = .bool false := hR ⟨4, .guard⟩ (by simp) rfl
          clear hR
          simp only [g13]
          clear g13
          refine if_yes (by kernel_rfl) ?_
          unfold Oper.wp
          go_simp
          exact ⟨.int .i64 line, rfl, HC.out, Below.refl _ _, rfl⟩
        · have g13 : u 13 = .bool false := hR ⟨4, .guard⟩ (by simp) rfl
          have h15 : u 15 = .int .i64 line := hR ⟨6, .data⟩ (by simp) rfl
          clear hR
          simp only [g13, h15]
          clear g13 h15
          refine if_yes (by kernel_rfl) ?_
          unfold Oper.wp
          go_simp
          exact ⟨.agg #[.int .i64 line, .bool true], rfl, HC.out, Below.refl _ _, rfl⟩
        · have g13 : u 13 = .bool false := hR ⟨4, .guard⟩ (by simp) rfl
          have h14 : u 14 = .pointer (some ⟨o, 0, none⟩) := hR ⟨5, .data⟩ (by simp) rfl
          have h16 : u 16 = .agg #[.int .i64 line, .bool true] := hR ⟨7, .data⟩ (by simp) rfl
          clear hR
          simp only [g13, h14, h16]
          clear g13 h14 h16
          refine if_yes (by kernel_rfl) ?_
          unfold Oper.wp
          go_simp
          refine (HNX.out _ HC.out).mono ?_
          rintro e w2 ⟨rfl, hb2⟩
          exact ⟨.bool false, rfl, HC.out.call hb2, hb2, rfl⟩
        · have g13 : u 13 = .bool false := hR ⟨4, .guard⟩ (by simp) rfl
          have h17 : u 17 = .bool false := hR ⟨8, .data⟩ (by simp) rfl
          clear hR
          simp only [g13, h17]
          clear g13 h17
          refine if_yes (by kernel_rfl) ?_
          unfold Oper.wp
          go_simp
          exact ⟨.bool true, rfl, HC.out, Below.refl _ _, rfl⟩
        · have h13 : u 13 = .bool false := hR ⟨4, .data⟩ (by simp) rfl
          have h18 : u 18 = .bool true := hR ⟨9, .data⟩ (by simp) rfl
          clear hR
          simp only [h13, h18]
          clear h13 h18
          refine if_yes (by kernel_rfl) ?_
          unfold Oper.wp
          go_simp
          exact ⟨.bool true, rfl, HC.out, Below.refl _ _, rfl⟩
        · have h19 : u 19 = .bool true := hR ⟨10, .data⟩ (by simp) rfl
          clear hR
          simp only [h19]
          clear h19
          refine if_yes (by kernel_rfl) ?_
          unfold Oper.wp
          go_simp
          exact ⟨.bool true, rfl, HC.out, Below.refl _ _, rfl⟩
        · have g20 : u 20 = .bool true := hR ⟨11, .guard⟩ (by simp) rfl
          clear hR
          simp only [g20]
          clear g20
          refine if_no (by kernel_rfl) ?_
          exact ⟨undef, rfl, HC.out, Below.refl _ _, rfl⟩
        · have g20 : u 20 = .bool true := hR ⟨11, .guard⟩ (by simp) rfl
          clear hR
          simp only [g20]
          clear g20
          refine if_no (by kernel_rfl) ?_
          exact ⟨undef, rfl, HC.out, Below.refl _ _, rfl⟩
        · have g20 : u 20 = .bool true := hR ⟨11, .guard⟩ (by simp) rfl
          have h22 : u 22 = undef := hR ⟨13, .data⟩ (by simp) rfl
          clear hR
          simp only [g20, h22]
          clear g20 h22
          refine if_no (by kernel_rfl) ?_
          exact ⟨undef, rfl, HC.out, Below.refl _ _, rfl⟩
        · have g20 : u 20 = .bool true := hR ⟨11, .guard⟩ (by simp) rfl
          have h23 : u 23 = undef := hR ⟨14, .data⟩ (by simp) rfl
          clear hR
          simp only [g20, h23]
          clear g20 h23
          refine if_no (by kernel_rfl) ?_
          exact ⟨undef, rfl, HC.out, Below.refl _ _, rfl⟩
        · have g20 : u 20 = .bool true := hR ⟨11, .guard⟩ (by simp) rfl
          have h24 : u 24 = undef := hR ⟨15, .data⟩ (by simp) rfl
          clear hR
          simp only [g20, h24]
          clear g20 h24
          refine if_no (by kernel_rfl) ?_
          exact ⟨undef, rfl, HC.out, Below.refl _ _, rfl⟩
        · have g20 : u 20 = .bool true := hR ⟨11, .guard⟩ (by simp) rfl
          clear hR
          simp only [g20]
          clear g20
          refine if_no (by kernel_rfl) ?_
          exact ⟨undef, rfl, HC.out, Below.refl _ _, rfl⟩
        · have g20 : u 20 = .bool true := hR ⟨11, .guard⟩ (by simp) rfl
          have h25 : u 25 = undef := hR ⟨16, .data⟩ (by simp) rfl
          have h26 : u 26 = undef := hR ⟨17, .data⟩ (by simp) rfl
          clear hR
          simp only [g20, h25, h26]
          clear g20 h25 h26
          refine if_no (by kernel_rfl) ?_
          exact ⟨undef, rfl, HC.out, Below.refl _ _, rfl⟩
        · have g20 : u 20 = .bool true := hR ⟨11, .guard⟩ (by simp) rfl
          have h27 : u 27 = undef := hR ⟨18, .data⟩ (by simp) rfl
          clear hR
          simp only [g20, h27]
          clear g20 h27
          refine if_no (by kernel_rfl) ?_
          exact ⟨undef, rfl, HC.out, Below.refl _ _, rfl⟩
        · have g20 : u 20 = .bool true := hR ⟨11, .guard⟩ (by simp) rfl
          have h28 : u 28 = undef := hR ⟨19, .data⟩ (by simp) rfl
          clear hR
          simp only [g20, h28]
          clear g20 h28
          refine if_no (by kernel_rfl) ?_
          exact ⟨undef, rfl, HC.out, Below.refl _ _, rfl⟩
        · have g20 : u 20 = .bool true := hR ⟨11, .guard⟩ (by simp) rfl
          have h21 : u 21 = undef := hR ⟨12, .data⟩ (by simp) rfl
          have h29 : u 29 = undef := hR ⟨20, .data⟩ (by simp) rfl
          clear hR
          simp only [g20, h21, h29]
          clear g20 h21 h29
          refine if_no (by kernel_rfl) ?_
          exact ⟨undef, rfl, HC.out, Below.refl _ _, rfl⟩
        · have h20 : u 20 = .bool true := hR ⟨11, .data⟩ (by simp) rfl
          have h30 : u 30 = undef := hR ⟨21, .data⟩ (by simp) rfl
          clear hR
          simp only [h20, h30]
          clear h20 h30
          refine if_yes (by kernel_rfl) ?_
          unfold Oper.wp
          go_simp
          exact ⟨.bool true, rfl, HC.out, Below.refl _ _, rfl⟩
      · intro a' w' hC hB hR
        have h31 := hR 22 (by decide)
        obtain ⟨u, rfl⟩ := hB
        have h31 : u 31 = .bool true := h31
        simp only [h31]
        have HC3 := Lib.hid hC
        clear hR h31 hC HC0 HTK HNX
        go_wp2_with fail
        go_ret
        exact ⟨rfl, ⟨ls, HC3.out.code⟩, Only.of_below HC3.out.low⟩
    | true =>
      obtain ⟨a1, a2, a3, a4, a5, a6⟩ := hT.1 rfl
      obtain ⟨b1, b2, b3⟩ := hN.1 rfl
      obtain ⟨n, hn⟩ : ∃ n, (stepC s.L s.done).1 = n := ⟨_, rfl⟩
      have hst : stepC s.L s.done = (n, true) := by rw [← hn, b3]
      rw [hn] at b2
      subst b2
      have hpg := HAB.out.pages a3 HWF.out b1 hst
      have hnL : n < s.L := by have := (place_step b1).2; rw [hst] at this; exact this
      have hok : same3 p q r (lnAt ls n).p (lnAt ls n).q (lnAt ls n).r = true ↔ TwoOk s (n : Int) p q r true := by
        rw [same3_iff]
        constructor
        · rintro ⟨e1, e2, e3⟩
          refine ⟨a1, a2, a3, b1, by rw [hst], by rw [hst], a4, a5, a6, fun _ => ?_⟩
          rw [Int.toNat_natCast]
          exact ⟨(e1.trans hpg.1).symm, (e2.trans hpg.2.1).symm, (e3.trans hpg.2.2).symm⟩
        · intro h
          have h4 := h.2.2.2.2.2.2.2.2.2 rfl
          rw [Int.toNat_natCast] at h4
          exact ⟨h4.1.symm.trans hpg.1.symm, h4.2.1.symm.trans hpg.2.1.symm, h4.2.2.symm.trans hpg.2.2.symm⟩
      obtain ⟨E, hE⟩ : ∃ E, same3 p q r (lnAt ls n).p (lnAt ls n).q (lnAt ls n).r = E := ⟨_, rfl⟩
      rw [hE] at hok
      have HE := Lib.hid hE
      have HOK := Lib.hid hok
      have HNL := Lib.hid hnL
      have hL := HWF.out.l64
      clear a1 a2 a3 a4 a5 a6 b1 b3 hst hpg hn hE hok hT hN hnL
      go_enter Tryz.func58, Tryz.ntmps58
      go_wp2_with fail
      change Code.wp _ _ _ _ ((w.alloc (.cells (tv3 p q r) 38)).alloc (.cells (fv x k a b) 40))
      rw [HW2.out]
      rename_i K0 hK0
      refine wp_region_list3 (SV (vsFIC o g cap w.heap.size n s ls p q r E) []) (BaseFIC o w.heap.size n) (CF w o g cap s ls p q r x k a b) (Goes) (RV (vsFIC o g cap w.heap.size n s ls p q r E) (fun _ _ _ => False)) rfl (by kernel_rfl) (RV.ext no_specialC) ?_ (HC0.out.call (Below.refl _ _).drew) (BaseFIC.of _ (by kernel_rfl)) ?_ ?_
      · exact ⟨BaseFIC.put9, BaseFIC.put10, BaseFIC.put11, BaseFIC.put12, BaseFIC.put13, BaseFIC.put14, BaseFIC.put15, BaseFIC.put16, BaseFIC.put17, BaseFIC.put18, BaseFIC.put19, BaseFIC.put20, BaseFIC.put21, BaseFIC.put22, BaseFIC.put23, BaseFIC.put24, BaseFIC.put25, BaseFIC.put26, BaseFIC.put27, BaseFIC.put28, BaseFIC.put29, BaseFIC.put30, BaseFIC.put31, trivial⟩
      · refine ⟨?_, ?_, ?_, ?_, ?_, ?_, ?_, ?_, ?_, ?_, ?_, ?_, ?_, ?_, ?_, ?_, ?_, ?_, ?_, ?_, ?_, ?_, ?_, trivial⟩
        all_goals
          intro a w' hC hB hR
          obtain ⟨u, rfl⟩ := hB
          have HC := Lib.hid hC
          clear hC
          clear hK0
        · clear hR
          refine if_yes (by kernel_rfl) ?_
          unfold Oper.wp
          go_simp
          exact ⟨.pointer (some ⟨o, 0, none⟩), rfl, HC.out, Below.refl _ _, rfl⟩
        · clear hR
          refine if_yes (by kernel_rfl) ?_
          unfold Oper.wp
          go_simp
          exact ⟨.slice (some ⟨w.heap.size, 0, none⟩) 3 3, rfl, HC.out, Below.refl _ _, rfl⟩
        · have h9 : u 9 = .pointer (some ⟨o, 0, none⟩) := hR ⟨0, .data⟩ (by simp) rfl
          have h10 : u 10 = .slice (some ⟨w.heap.size, 0, none⟩) 3 3 := hR ⟨1, .data⟩ (by simp) rfl
          clear hR
          simp only [h9, h10]
          clear h9 h10
          refine if_yes (by kernel_rfl) ?_
          unfold Oper.wp
          go_simp
          refine (HTK.out _ HC.out).mono ?_
          rintro e w2 ⟨rfl, hb2⟩
          exact ⟨.bool true, rfl, HC.out.call hb2, hb2, rfl⟩
        · have h11 : u 11 = .bool true := hR ⟨2, .data⟩ (by simp) rfl
          clear hR
          simp only [h11]
          clear h11
          refine if_yes (by kernel_rfl) ?_
          unfold Oper.wp
          go_simp
          exact ⟨.bool false, rfl, HC.out, Below.refl _ _, rfl⟩
        · have h12 : u 12 = .bool false := hR ⟨3, .data⟩ (by simp) rfl
          clear hR
          simp only [h12]
          clear h12
          refine if_yes (by kernel_rfl) ?_
          unfold Oper.wp
          go_simp
          exact ⟨.bool false, rfl, HC.out, Below.refl _ _, rfl⟩
        · have g13 : u 13 = .bool false := hR ⟨4, .guard⟩ (by simp) rfl
          clear hR
          simp only [g13]
          clear g13
          refine if_yes (by kernel_rfl) ?_
          unfold Oper.wp
          go_simp
          exact ⟨.pointer (some ⟨o, 0, none⟩), rfl, HC.out, Below.refl _ _, rfl⟩
        · have g13 : u 13 = .bool false := hR ⟨4, .guard⟩ (by simp) rfl
          clear hR
          simp only [g13]
          clear g13
          refine if_yes (by kernel_rfl) ?_
          unfold Oper.wp
          go_simp
          exact ⟨.int .i64 (n : Int), rfl, HC.out, Below.refl _ _, rfl⟩
        · have g13 : u 13 = .bool false := hR ⟨4, .guard⟩ (by simp) rfl
          have h15 : u 15 = .int .i64 (n : Int) := hR ⟨6, .data⟩ (by simp) rfl
          clear hR
          simp only [g13, h15]
          clear g13 h15
          refine if_yes (by kernel_rfl) ?_
          unfold Oper.wp
          go_simp
          exact ⟨.agg #[.int .i64 (n : Int), .bool true], rfl, HC.out, Below.refl _ _, rfl⟩
        · have g13 : u 13 = .bool false := hR ⟨4, .guard⟩ (by simp) rfl
          have h14 : u 14 = .pointer (some ⟨o, 0, none⟩) := hR ⟨5, .data⟩ (by simp) rfl
          have h16 : u 16 = .agg #[.int .i64 (n : Int), .bool true] := hR ⟨7, .data⟩ (by simp) rfl
          clear hR
          simp only [g13, h14, h16]
          clear g13 h14 h16
          refine if_yes (by kernel_rfl) ?_
          unfold Oper.wp
          go_simp
          refine (HNX.out _ HC.out).mono ?_
          rintro e w2 ⟨rfl, hb2⟩
          exact ⟨.bool true, rfl, HC.out.call hb2, hb2, rfl⟩
        · have g13 : u 13 = .bool false := hR ⟨4, .guard⟩ (by simp) rfl
          have h17 : u 17 = .bool true := hR ⟨8, .data⟩ (by simp) rfl
          clear hR
          simp only [g13, h17]
          clear g13 h17
          refine if_yes (by kernel_rfl) ?_
          unfold Oper.wp
          go_simp
          exact ⟨.bool false, rfl, HC.out, Below.refl _ _, rfl⟩
        · have h13 : u 13 = .bool false := hR ⟨4, .data⟩ (by simp) rfl
          have h18 : u 18 = .bool false := hR ⟨9, .data⟩ (by simp) rfl
          clear hR
          simp only [h13, h18]
          clear h13 h18
          refine if_yes (by kernel_rfl) ?_
          unfold Oper.wp
          go_simp
          exact ⟨.bool false, rfl, HC.out, Below.refl _ _, rfl⟩
        · have h19 : u 19 = .bool false := hR ⟨10, .data⟩ (by simp) rfl
          clear hR
          simp only [h19]
          clear h19
          refine if_yes (by kernel_rfl) ?_
          unfold Oper.wp
          go_simp
          exact ⟨.bool false, rfl, HC.out, Below.refl _ _, rfl⟩
        · have g20 : u 20 = .bool false := hR ⟨11, .guard⟩ (by simp) rfl
          clear hR
          simp only [g20]
          clear g20
          refine if_yes (by kernel_rfl) ?_
          exact wp_load_row 38 (.tmp 6) rfl w.heap.size rfl 38 (tv3 p q r) (0, 0) _ HC.out.pgs Tryz.underlying38 rfl size_three ⟨.agg (tv3 p q r), rfl, HC.out, Below.refl _ _, rfl⟩
        · have g20 : u 20 = .bool false := hR ⟨11, .guard⟩ (by simp) rfl
          clear hR
          simp only [g20]
          clear g20
          refine if_yes (by kernel_rfl) ?_
          unfold Oper.wp
          go_simp
          exact ⟨.pointer (some ⟨o, 0, none⟩), rfl, HC.out, Below.refl _ _, rfl⟩
        · have g20 : u 20 = .bool false := hR ⟨11, .guard⟩ (by simp) rfl
          have h22 : u 22 = .pointer (some ⟨o, 0, none⟩) := hR ⟨13, .data⟩ (by simp) rfl
          clear hR
          simp only [g20, h22]
          clear g20 h22
          refine if_yes (by kernel_rfl) ?_
          unfold Oper.wp
          go_simp
          exact ⟨.pointer (some ⟨o, 0, none⟩), rfl, HC.out, Below.refl _ _, rfl⟩
        · have g20 : u 20 = .bool false := hR ⟨11, .guard⟩ (by simp) rfl
          have h23 : u 23 = .pointer (some ⟨o, 0, none⟩) := hR ⟨14, .data⟩ (by simp) rfl
          clear hR
          simp only [g20, h23]
          clear g20 h23
          refine if_yes (by kernel_rfl) ?_
          unfold Oper.wp
          go_simp
          exact ⟨.pointer (some ⟨o, 0, none⟩), rfl, HC.out, Below.refl _ _, rfl⟩
        · have g20 : u 20 = .bool false := hR ⟨11, .guard⟩ (by simp) rfl
          have h24 : u 24 = .pointer (some ⟨o, 0, none⟩) := hR ⟨15, .data⟩ (by simp) rfl
          have hc : w'.cell? ⟨o, 0, none⟩ = some (.slice (some ⟨g, 0, none⟩) s.L cap) := HC.out.code.cell.cell 0
          clear hR
          simp only [g20, h24]
          clear g20 h24
          refine if_yes (by kernel_rfl) ?_
          unfold Oper.wp
          go_simp
          exact ⟨.slice (some ⟨g, 0, none⟩) s.L cap, rfl, HC.out, Below.refl _ _, rfl⟩
        · have g20 : u 20 = .bool false := hR ⟨11, .guard⟩ (by simp) rfl
          clear hR
          simp only [g20]
          clear g20
          refine if_yes (by kernel_rfl) ?_
          unfold Oper.wp
          go_simp
          exact ⟨.int .i64 (n : Int), rfl, HC.out, Below.refl _ _, rfl⟩
        · have g20 : u 20 = .bool false := hR ⟨11, .guard⟩ (by simp) rfl
          have h25 : u 25 = .slice (some ⟨g, 0, none⟩) s.L cap := hR ⟨16, .data⟩ (by simp) rfl
          have h26 : u 26 = .int .i64 (n : Int) := hR ⟨17, .data⟩ (by simp) rfl
          have hn0 := HNL.out
          clear hR
          simp only [g20, h25, h26]
          clear g20 h25 h26
          refine if_yes (by kernel_rfl) ?_
          unfold Oper.wp
          go_simp
          exact ⟨.pointer (some ⟨g, n * 4, none⟩), rfl, HC.out, Below.refl _ _, rfl⟩
        · have g20 : u 20 = .bool false := hR ⟨11, .guard⟩ (by simp) rfl
          have h27 : u 27 = .pointer (some ⟨g, n * 4, none⟩) := hR ⟨18, .data⟩ (by simp) rfl
          clear hR
          simp only [g20, h27]
          clear g20 h27
          refine if_yes (by kernel_rfl) ?_
          unfold Oper.wp
          go_simp
          exact ⟨.pointer (some ⟨g, n * 4, none⟩), rfl, HC.out, Below.refl _ _, rfl⟩
        · have g20 : u 20 = .bool false := hR ⟨11, .guard⟩ (by simp) rfl
          have h28 : u 28 = .pointer (some ⟨g, n * 4, none⟩) := hR ⟨19, .data⟩ (by simp) rfl
          clear hR
          simp only [g20, h28]
          clear g20 h28
          refine if_yes (by kernel_rfl) ?_
          exact wp_load_mid 38 (.tmp 28) rfl g (n * 4) rfl [.string (lnAt ls n).p, .string (lnAt ls n).q, .string (lnAt ls n).r] _ (HC.out.code.rows.pages (by rw [HC.out.code.abs.len]; exact HNL.out)) Tryz.underlying38 rfl size_three ⟨.agg #[.string (lnAt ls n).p, .string (lnAt ls n).q, .string (lnAt ls n).r], rfl, HC.out, Below.refl _ _, rfl⟩
        · have g20 : u 20 = .bool false := hR ⟨11, .guard⟩ (by simp) rfl
          have h21 : u 21 = .agg (tv3 p q r) := hR ⟨12, .data⟩ (by simp) rfl
          have h29 : u 29 = .agg #[.string (lnAt ls n).p, .string (lnAt ls n).q, .string (lnAt ls n).r] := hR ⟨20, .data⟩ (by simp) rfl
          clear hR
          simp only [g20, h21, h29]
          clear g20 h21 h29
          refine if_yes (by kernel_rfl) ?_
          exact wp_neq_three (.tmp 21) (.tmp 29) rfl p q r (lnAt ls n).p (lnAt ls n).q (lnAt ls n).r rfl rfl ⟨.bool (!same3 p q r (lnAt ls n).p (lnAt ls n).q (lnAt ls n).r), rfl, HC.out, Below.refl _ _, congrArg (fun b => Value.bool (!b)) HE.out⟩
        · have h20 : u 20 = .bool false := hR ⟨11, .data⟩ (by simp) rfl
          have h30 : u 30 = .bool (!E) := hR ⟨21, .data⟩ (by simp) rfl
          clear hR
          simp only [h20, h30]
          clear h20 h30
          refine if_yes (by kernel_rfl) ?_
          unfold Oper.wp
          go_simp
          exact ⟨.bool (!E), rfl, HC.out, Below.refl _ _, rfl⟩
      · intro a' w' hC hB hR
        have h31 := hR 22 (by decide)
        obtain ⟨u, rfl⟩ := hB
        have h31 : u 31 = .bool (!E) := h31
        simp only [h31]
        have HC3 := Lib.hid hC
        clear hR h31 hC HC0 HTK HNX HE
        cases E with
        | true =>
          have hok := HOK.out.1 rfl
          have HO2 := Lib.hid hok
          clear hok HOK
          go_wp2_with (first
            | (refine wpList_load_row rfl 38 (.tmp 6) rfl w.heap.size rfl 38 (tv3 p q r) (0, 0) _ HC3.out.pgs Tryz.underlying38 rfl size_three ?_)
            | (refine wpList_load_row rfl 40 (.tmp 7) rfl (w.heap.size + 1) rfl 40 (fv x k a b) (0, 0) _ HC3.out.how Tryz.underlying40 rfl size_fault ?_))
          refine (HC3.out.step HWF.out n HO2.out).mono ?_
          rintro e w5 hr
          obtain ⟨rfl, h2, h3⟩ := ActR.from hr HC3.out.low
          have HR := Lib.hid h2
          have HO := Lib.hid h3
          clear hr h2 h3
          go_wp2_with fail
          go_ret
          exact ⟨rfl, HR.out, HO.out⟩
        | false =>
          have h2 := two_no (fun h => by have := HOK.out.2 h; cases this) (s := s) (line := (n : Int)) (p := p) (q := q) (r := r) (f := true) (k := k) (a := a) (b := b)
          have H2 := Lib.hid h2
          clear h2 HOK
          go_wp2_with fail
          go_ret
          exact ⟨by rw [H2.out.2]; rfl, ⟨ls, by rw [H2.out.1]; exact HC3.out.code⟩, Only.of_below HC3.out.low⟩

end Go.Proofs.YtlijndkpgmbapaaGreatDoor

/- Package cell, walked: Erase. -/
namespace Go.Proofs.YtlijndkpgmbapaaGreatDoor
set_option maxRecDepth 100000
open Go.RowKit

/-- the world while a line is hurt -/
structure CE6 (wr : World) (o g bc bh : Nat) (cs : Array Value) (l2 : List Ln) (x k a b : Int) (w : World) : Prop where
  cell : Blk w o cs 113
  rows : LnsAt w g l2
  box : w.cell? ⟨bc, 0, none⟩ = some (.pointer (some ⟨o, 0, none⟩))
  how : Blk w bh (fv x k a b) 40
  low : Only (FF o g) wr w
theorem CE6.call {wr w w' : World} {o g bc bh : Nat} {cs : Array Value} {l2 : List Ln} {x k a b : Int} (h : CE6 wr o g bc bh cs l2 x k a b w) (hb : Below w.heap.size w w') : CE6 wr o g bc bh cs l2 x k a b w' :=
  ⟨h.cell.after hb, h.rows.after hb, (hb.cell (p := ⟨bc, 0, none⟩) (cell_lt h.box)).trans h.box, h.how.after hb, h.low.trans (Only.of_below (F := FF o g) hb) (fun _ hk => Or.inl hk)⟩
def ZE (wr : World) (o g : Nat) (cs : Array Value) (l3 : List Ln) (w : World) : Prop := Blk w o cs 113 ∧ LnsAt w g l3 ∧ Only (FF o g) wr w
theorem ZE.call {wr w w' : World} {o g : Nat} {cs : Array Value} {l3 : List Ln} (h : ZE wr o g cs l3 w) (hb : Below w.heap.size w w') : ZE wr o g cs l3 w' := ⟨h.1.after hb, h.2.1.after hb, h.2.2.trans (Only.of_below (F := FF o g) hb) (fun _ hk => Or.inl hk)⟩
theorem CE6.store {wr w : World} {o g bc bh i : Nat} {cs : Array Value} {l2 : List Ln} {x k a b : Int} (h : CE6 wr o g bc bh cs l2 x k a b w) (hne : o ≠ g) (hi : i < l2.length) (ln : Ln) : ZE wr o g cs (l2.set i ln) (w.setCells g (i * 4) (lv ln).toList) := by
  refine ⟨?_, h.rows.set i ln hi, Only.setCells g (Or.inr rfl) _ _ _ h.low⟩
  have h1 := h.cell
  unfold Blk at *
  rw [setCells_heap_ne _ _ hne]
  exact h1
/-- what each operation of the region ER leaves -/
def vsER (o g cap L bh i : Nat) (a b : Int) (tn hh : Ln) : List (Option (Tmp × Value)) :=
  [some (18, .pointer (some ⟨o, 0, none⟩)), some (19, .pointer (some ⟨o, 0, none⟩)), some (20, .pointer (some ⟨o, 0, none⟩)), some (21, .slice (some ⟨g, 0, none⟩) L cap), some (22, .int .i64 (i : Int)), some (23, .pointer (some ⟨o, 0, none⟩)), some (24, .int .i64 (i : Int)), some (25, .agg (lv tn)), some (26, .pointer (some ⟨bh, 2, none⟩)), some (27, .int .i64 a), some (28, .pointer (some ⟨bh, 3, none⟩)), some (29, .int .i64 b), some (30, .agg (lv hh)), some (31, .pointer (some ⟨g, i * 4, none⟩)), none]
/-- the frame while the region ER runs -/
def BaseER (bc bh i : Nat) (arr0 : Array Value) (a : Act) : Prop := ∃ u : Nat → Value, a = ⟨#[arr0.getD 0 undef, .pointer (some ⟨bc, 0, none⟩), .pointer (some ⟨bh, 0, none⟩), arr0.getD 3 undef, .int .i64 (i : Int), arr0.getD 5 undef, arr0.getD 6 undef, arr0.getD 7 undef, arr0.getD 8 undef, arr0.getD 9 undef, arr0.getD 10 undef, arr0.getD 11 undef, arr0.getD 12 undef, arr0.getD 13 undef, arr0.getD 14 undef, arr0.getD 15 undef, arr0.getD 16 undef, arr0.getD 17 undef, u 18, u 19, u 20, u 21, u 22, u 23, u 24, u 25, u 26, u 27, u 28, u 29, u 30, u 31, arr0.getD 32 undef, arr0.getD 33 undef, arr0.getD 34 undef, arr0.getD 35 undef, arr0.getD 36 undef, arr0.getD 37 undef, arr0.getD 38 undef, arr0.getD 39 undef, arr0.getD 40 undef], []⟩
theorem BaseER.of {bc bh i : Nat} {arr0 : Array Value} (arr : Array Value) (h : arr = #[arr0.getD 0 undef, .pointer (some ⟨bc, 0, none⟩), .pointer (some ⟨bh, 0, none⟩), arr0.getD 3 undef, .int .i64 (i : Int), arr0.getD 5 undef, arr0.getD 6 undef, arr0.getD 7 undef, arr0.getD 8 undef, arr0.getD 9 undef, arr0.getD 10 undef, arr0.getD 11 undef, arr0.getD 12 undef, arr0.getD 13 undef, arr0.getD 14 undef, arr0.getD 15 undef, arr0.getD 16 undef, arr0.getD 17 undef, arr.getD 18 undef, arr.getD 19 undef, arr.getD 20 undef, arr.getD 21 undef, arr.getD 22 undef, arr.getD 23 undef, arr.getD 24 undef, arr.getD 25 undef, arr.getD 26 undef, arr.getD 27 undef, arr.getD 28 undef, arr.getD 29 undef, arr.getD 30 undef, arr.getD 31 undef, arr0.getD 32 undef, arr0.getD 33 undef, arr0.getD 34 undef, arr0.getD 35 undef, arr0.getD 36 undef, arr0.getD 37 undef, arr0.getD 38 undef, arr0.getD 39 undef, arr0.getD 40 undef]) : BaseER bc bh i arr0 ⟨arr, []⟩ := ⟨fun i => arr.getD i undef, by rw [← h]⟩
theorem BaseER.put18 {bc bh i : Nat} {arr0 : Array Value} (a : Act) (v : Value) (h : BaseER bc bh i arr0 a) : BaseER bc bh i arr0 (a.put (some 18) v) := by
  obtain ⟨u, rfl⟩ := h
  exact ⟨fun i => if i = 18 then v else u i, by kernel_rfl⟩
theorem BaseER.put19 {bc bh i : Nat} {arr0 : Array Value} (a : Act) (v : Value) (h : BaseER bc bh i arr0 a) : BaseER bc bh i arr0 (a.put (some 19) v) := by
  obtain ⟨u, rfl⟩ := h
  exact ⟨fun i => if i = 19 then v else u i, by kernel_rfl⟩
theorem BaseER.put20 {bc bh i : Nat} {arr0 : Array Value} (a : Act) (v : Value) (h : BaseER bc bh i arr0 a) : BaseER bc bh i arr0 (a.put (some 20) v) := by
  obtain ⟨u, rfl⟩ := h
  exact ⟨fun i => if i = 20 then v else u i, by kernel_rfl⟩
theorem BaseER.put21 {bc bh i : Nat} {arr0 : Array Value} (a : Act) (v : Value) (h : BaseER bc bh i arr0 a) : BaseER bc bh i arr0 (a.put (some 21) v) := by
  obtain ⟨u, rfl⟩ := h
  exact ⟨fun i => if i = 21 then v else u i, by kernel_rfl⟩
theorem BaseER.put22 {bc bh i : Nat} {arr0 : Array Value} (a : Act) (v : Value) (h : BaseER bc bh i arr0 a) : BaseER bc bh i arr0 (a.put (some 22) v) := by
  obtain ⟨u, rfl⟩ := h
  exact ⟨fun i => if i = 22 then v else u i, by kernel_rfl⟩
theorem BaseER.put23 {bc bh i : Nat} {arr0 : Array Value} (a : Act) (v : Value) (h : BaseER bc bh i arr0 a) : BaseER bc bh i arr0 (a.put (some 23) v) := by
  obtain ⟨u, rfl⟩ := h
  exact ⟨fun i => if i = 23 then v else u i, by kernel_rfl⟩
theorem BaseER.put24 {bc bh i : Nat} {arr0 : Array Value} (a : Act) (v : Value) (h : BaseER bc bh i arr0 a) : BaseER bc bh i arr0 (a.put (some 24) v) := by
  obtain ⟨u, rfl⟩ := h
  exact ⟨fun i => if i = 24 then v else u i, by kernel_rfl⟩
theorem BaseER.put25 {bc bh i : Nat} {arr0 : Array Value} (a : Act) (v : Value) (h : BaseER bc bh i arr0 a) : BaseER bc bh i arr0 (a.put (some 25) v) := by
  obtain ⟨u, rfl⟩ := h
  exact ⟨fun i => if i = 25 then v else u i, by kernel_rfl⟩
theorem BaseER.put26 {bc bh i : Nat} {arr0 : Array Value} (a : Act) (v : Value) (h : BaseER bc bh i arr0 a) : BaseER bc bh i arr0 (a.put (some 26) v) := by
  obtain ⟨u, rfl⟩ := h
  exact ⟨fun i => if i = 26 then v else u i, by kernel_rfl⟩
theorem BaseER.put27 {bc bh i : Nat} {arr0 : Array Value} (a : Act) (v : Value) (h : BaseER bc bh i arr0 a) : BaseER bc bh i arr0 (a.put (some 27) v) := by
  obtain ⟨u, rfl⟩ := h
  exact ⟨fun i => if i = 27 then v else u i, by kernel_rfl⟩
theorem BaseER.put28 {bc bh i : Nat} {arr0 : Array Value} (a : Act) (v : Value) (h : BaseER bc bh i arr0 a) : BaseER bc bh i arr0 (a.put (some 28) v) := by
  obtain ⟨u, rfl⟩ := h
  exact ⟨fun i => if i = 28 then v else u i, by kernel_rfl⟩
theorem BaseER.put29 {bc bh i : Nat} {arr0 : Array Value} (a : Act) (v : Value) (h : BaseER bc bh i arr0 a) : BaseER bc bh i arr0 (a.put (some 29) v) := by
  obtain ⟨u, rfl⟩ := h
  exact ⟨fun i => if i = 29 then v else u i, by kernel_rfl⟩
theorem BaseER.put30 {bc bh i : Nat} {arr0 : Array Value} (a : Act) (v : Value) (h : BaseER bc bh i arr0 a) : BaseER bc bh i arr0 (a.put (some 30) v) := by
  obtain ⟨u, rfl⟩ := h
  exact ⟨fun i => if i = 30 then v else u i, by kernel_rfl⟩
theorem BaseER.put31 {bc bh i : Nat} {arr0 : Array Value} (a : Act) (v : Value) (h : BaseER bc bh i arr0 a) : BaseER bc bh i arr0 (a.put (some 31) v) := by
  obtain ⟨u, rfl⟩ := h
  exact ⟨fun i => if i = 31 then v else u i, by kernel_rfl⟩

theorem toldR_at (m : Int) (L d : Nat) (l2 ls : List Ln) (i : Nat) (h : lnAt l2 i = lnAt ls i) : toldR m L d l2 i = toldR m L d ls i := by unfold toldR; rw [h]
theorem toldR_size {m : Int} {L d : Nat} {ls : List Ln} (i : Nat) (hs : ∀ t, ((lnAt ls i).pt t).size ≤ 400) (t : Nat) : ((toldR m L d ls i).pt t).size ≤ 400 := by
  unfold toldR
  split
  · rw [hurtL_pt]
    split
    · exact hs t
    · rw [hurtT_size]; exact hs t
  · exact hs t
/-- so many lines are hurt -/
def Ruined (m : Int) (L d : Nat) (ls : List Ln) (a b : Int) (i : Nat) (l2 : List Ln) : Prop := l2.length = L ∧ (∀ j, j < i → lnAt l2 j = hurtL (toldR m L d ls j) a b) ∧ (∀ j, i ≤ j → lnAt l2 j = lnAt ls j)
theorem Ruined.next {m : Int} {L d : Nat} {ls : List Ln} {a b : Int} {i : Nat} {l2 : List Ln} (h : Ruined m L d ls a b i l2) (hi : i < L) : Ruined m L d ls a b (i + 1) (l2.set i (hurtL (toldR m L d ls i) a b)) := by
  obtain ⟨h1, h2, h3⟩ := h
  refine ⟨by simp [h1], fun j hj => ?_, fun j hj => ?_⟩
  · rw [lnAt_set _ _ _ _ (by omega)]
    split
    · rename_i e; rw [e]
    · exact h2 j (by omega)
  · rw [lnAt_set _ _ _ _ (by omega), if_neg (by omega)]
    exact h3 j (by omega)

set_option maxHeartbeats 2000000 in
theorem ce_erase1_no (o L g cap : Nat) (bl : ByteArray) (m : Int) (d sl tl : Nat) (bad torn : Bool) (ls : List Ln) (bc bh : Nat) (x k a b : Int) (w : World)
    (hk : Blk w o (cc L g cap bl m d sl tl bad torn) 113) (hl : LnsAt w g ls) (hlen : ls.length = L) (hne : o ≠ g) (h1 : 1 ≤ L) (h64 : L ≤ 64) (hd : d ≤ 2 * L) (hm : m = 0 ∨ m = 1 ∨ m = 2) (hsl : sl < 1000000000) (htl : tl < 1000000000)
    (hs : ∀ i t, ((lnAt ls i).pt t).size ≤ 400) (hbc : w.cell? ⟨bc, 0, none⟩ = some (.pointer (some ⟨o, 0, none⟩))) (hbh : Blk w bh (fv x k a b) 40) (n1 : bc ≠ o ∧ bc ≠ g) (n2 : bh ≠ o ∧ bh ≠ g) :
    Calls Tryz.prog 102 #[.bool false, .pointer (some ⟨bc, 0, none⟩), .pointer (some ⟨bh, 0, none⟩)] w fun e w' => e = .returned (.tuple #[]) ∧
      Blk w' o (cc L g cap bl (if m = 0 then 1 else m) d (if m = 2 then sl else sl + 1) (if m = 2 then tl + 1 else tl) bad torn) 113 ∧ (∃ l2, Ruined m L d ls a b L l2 ∧ LnsAt w' g l2) ∧ Only (FF o g) w w' := by
  obtain ⟨sl', hsl'⟩ : ∃ sl', (if m = 2 then sl else sl + 1) = sl' := ⟨_, rfl⟩
  obtain ⟨tl', htl'⟩ : ∃ tl', (if m = 2 then tl + 1 else tl) = tl' := ⟨_, rfl⟩
  obtain ⟨m', hm'⟩ : ∃ m', (if m = 0 then 1 else m) = m' := ⟨_, rfl⟩
  have hcn := ce_count o L g cap bl m d sl tl bad torn w hk hsl htl
  rw [hsl', htl'] at hcn
  rw [hsl', htl', hm']
  have HCN := Lib.hid hcn
  have HL := Lib.hid hl
  have HLEN := Lib.hid hlen
  have HNE := Lib.hid hne
  have HM' := Lib.hid hm'
  have HM := Lib.hid hm
  have HS := Lib.hid hs
  have HBH := Lib.hid hbh
  have HBC := Lib.hid hbc
  have HN := Lib.hid (⟨n1, n2⟩ : (bc ≠ o ∧ bc ≠ g) ∧ (bh ≠ o ∧ bh ≠ g))
  have HI := Lib.hid (⟨h1, h64, hd⟩ : 1 ≤ L ∧ L ≤ 64 ∧ d ≤ 2 * L)
  clear hsl' htl' hm' hcn hl hlen hne hm hs hbh n1 n2 hk h1 hd hsl htl
  go_enter Tryz.func102, Tryz.ntmps102
  go_wp2_with fail
  refine HCN.out.mono ?_
  rintro e w2 ⟨rfl, hk2, ho2⟩
  have hr2 := HL.out.only ho2 (fun h => HNE.out h.symm)
  have ho2 : Only (FF o g) w w2 := ho2.weak (fun _ h => Or.inl h)
  have hC : CE6 w o g bc bh (cc L g cap bl m d sl' tl' bad torn) ls x k a b w2 :=
    ⟨hk2, hr2, ho2.cell HBC.out (fun h => by have h : bc = o ∨ bc = g := h; have := HN.out; omega), HBH.out.only ho2 (fun h => by have h : bh = o ∨ bh = g := h; have := HN.out; omega), ho2⟩
  have cb := hC.box
  have c0 : w2.cell? ⟨o, 0, none⟩ = some (.slice (some ⟨g, 0, none⟩) L cap) := hC.cell.cell 0
  have HC2 := Lib.hid hC
  clear hk2 hr2 ho2 hC HL HBH HCN
  go_wp2_with fail
  go_loopw [15] (fun iv wr => ∃ i : Nat, i ≤ L ∧ iv = .int .i64 i ∧ ∃ l2, Ruined m L d ls a b i l2 ∧ CE6 w o g bc bh (cc L g cap bl m d sl' tl' bad torn) l2 x k a b wr) (fun iv _ => L - (intOf iv).toNat)
  case atStart => exact ⟨0, Nat.zero_le _, rfl, ls, ⟨HLEN.out, fun j hj => absurd hj (Nat.not_lt_zero _), fun _ _ => rfl⟩, HC2.out⟩
  case round =>
    obtain ⟨i, hi, rfl, l2, hru, hC⟩ := hrel
    clear HC2 cb c0
    have HRU := Lib.hid hru
    have HC := Lib.hid hC
    by_cases hlt : i < L
    · obtain ⟨cs, hcs⟩ : ∃ cs, cc L g cap bl m d sl' tl' bad torn = cs := ⟨_, rfl⟩
      have HCS := Lib.hid hcs
      have hC0 : CE6 wr o g bc bh cs l2 x k a b wr := by rw [← hcs]; exact ⟨hC.cell, hC.rows, hC.box, hC.how, Only.refl _ _⟩
      have HC0 := Lib.hid hC0
      obtain ⟨tn, htn⟩ : ∃ tn, toldR m L d ls i = tn := ⟨_, rfl⟩
      obtain ⟨hh, hhh⟩ : ∃ hh, hurtL tn a b = hh := ⟨_, rfl⟩
      have hsz : ∀ t, (tn.pt t).size ≤ 400 := fun t => by rw [← htn]; exact toldR_size i (HS.out i) t
      have HTD : Hid (∀ w', CE6 wr o g bc bh cs l2 x k a b w' → Calls Tryz.prog 84 #[.pointer (some ⟨o, 0, none⟩), .int .i64 (i : Int)] w' fun e w'' => e = .returned (.agg (lv tn)) ∧ Below w'.heap.size w' w'') := fun w' h => by
        have hlen2 := HRU.out.1
        have hat := HRU.out.2.2 i (Nat.le_refl _)
        have hI := HI.out
        have hcell := h.cell
        rw [← HCS.out] at hcell
        rw [← htn, ← toldR_at m L d l2 ls i hat]
        exact ce_told o L g cap bl m d sl' tl' bad torn l2 i w' hcell h.rows hlen2 hI.1 hI.2.1 hI.2.2 hlt (fun t => by rw [hat]; exact HS.out i t) HM.out
      have HHB : Hid (∀ w', Calls Tryz.prog 104 #[.agg (lv tn), .int .i64 a, .int .i64 b] w' fun e w'' => e = .returned (.agg (lv hh)) ∧ Below w'.heap.size w' w'') := fun w' => by
        rw [← hhh]
        exact ce_hurtBy tn a b w' hsz
      have HLI : Hid (i < l2.length) := by
        show i < l2.length
        rw [hru.1]; exact hlt
      have HLT : Hid ((i : Int) < (L : Int)) := by
        show (i : Int) < (L : Int)
        omega
      have HTN := Lib.hid htn
      have HHH := Lib.hid hhh
      clear hcs hC0 htn hhh hsz hru hC
      go_wp2_with fail
      rename_i K0 hK0
      generalize hA : (⟨_, _⟩ : Act) = A
      have HA := Lib.hid hA
      have HBT : Hid (BaseER bc bh i A.tmps A) := by
        show BaseER _ _ _ _ _
        rw [← hA]
        exact BaseER.of _ (by kernel_rfl)
      clear hA
      refine wp_region_list4 14 (SV2 (vsER o g cap L bh i a b tn hh) (fun _ => [])) (BaseER bc bh i A.tmps) (CE6 wr o g bc bh cs l2 x k a b) (fun w1 w2 => ZE wr o g cs (l2.set i hh) w1 → ZE wr o g cs (l2.set i hh) w2) (RV (vsER o g cap L bh i a b tn hh) (fun j _ w1 => j = 14 → ZE wr o g cs (l2.set i hh) w1)) rfl (by decide) (by kernel_rfl) (by kernel_rfl) (RV.ext2 (f := fun _ => []) (fun _ _ _ _ _ h1 _ h2 h3 => h2 (h1 h3))) ?_ (HC0.out.call (Below.refl _ _).drew) HBT.out ?_ ?_
      · exact ⟨BaseER.put18, BaseER.put19, BaseER.put20, BaseER.put21, BaseER.put22, BaseER.put23, BaseER.put24, BaseER.put25, BaseER.put26, BaseER.put27, BaseER.put28, BaseER.put29, BaseER.put30, BaseER.put31, fun a v h => h, trivial⟩
      · refine ⟨?_, ?_, ?_, ?_, ?_, ?_, ?_, ?_, ?_, ?_, ?_, ?_, ?_, ?_, ?_, trivial⟩
        all_goals
          intro a w' hC hB hR
          obtain ⟨u, rfl⟩ := hB
          have HC := Lib.hid hC
          clear hC
          clear hK0
        · have hc : w'.cell? ⟨bc, 0, none⟩ = some (.pointer (some ⟨o, 0, none⟩)) := HC.out.box
          clear hR
          refine if_yes (by kernel_rfl) ?_
          unfold Oper.wp
          go_simp
          exact ⟨.pointer (some ⟨o, 0, none⟩), rfl, (by first | exact HC.out | exact fun _ => HC.out), (fun hz => hz), rfl⟩
        · have h18 : u 18 = .pointer (some ⟨o, 0, none⟩) := hR ⟨0, .data⟩ (by simp) rfl
          clear hR
          simp only [h18]
          clear h18
          refine if_yes (by kernel_rfl) ?_
          unfold Oper.wp
          go_simp
          exact ⟨.pointer (some ⟨o, 0, none⟩), rfl, (by first | exact HC.out | exact fun _ => HC.out), (fun hz => hz), rfl⟩
        · have h19 : u 19 = .pointer (some ⟨o, 0, none⟩) := hR ⟨1, .data⟩ (by simp) rfl
          clear hR
          simp only [h19]
          clear h19
          refine if_yes (by kernel_rfl) ?_
          unfold Oper.wp
          go_simp
          exact ⟨.pointer (some ⟨o, 0, none⟩), rfl, (by first | exact HC.out | exact fun _ => HC.out), (fun hz => hz), rfl⟩
        · have h20 : u 20 = .pointer (some ⟨o, 0, none⟩) := hR ⟨2, .data⟩ (by simp) rfl
          have hc : w'.cell? ⟨o, 0, none⟩ = some (.slice (some ⟨g, 0, none⟩) L cap) := by rw [HC.out.cell.cell 0, ← HCS.out]; rfl
          clear hR
          simp only [h20]
          clear h20
          refine if_yes (by kernel_rfl) ?_
          unfold Oper.wp
          go_simp
          exact ⟨.slice (some ⟨g, 0, none⟩) L cap, rfl, (by first | exact HC.out | exact fun _ => HC.out), (fun hz => hz), rfl⟩
        · clear hR
          refine if_yes (by kernel_rfl) ?_
          unfold Oper.wp
          go_simp
          exact ⟨.int .i64 (i : Int), rfl, (by first | exact HC.out | exact fun _ => HC.out), (fun hz => hz), rfl⟩
        · have hc : w'.cell? ⟨bc, 0, none⟩ = some (.pointer (some ⟨o, 0, none⟩)) := HC.out.box
          clear hR
          refine if_yes (by kernel_rfl) ?_
          unfold Oper.wp
          go_simp
          exact ⟨.pointer (some ⟨o, 0, none⟩), rfl, (by first | exact HC.out | exact fun _ => HC.out), (fun hz => hz), rfl⟩
        · clear hR
          refine if_yes (by kernel_rfl) ?_
          unfold Oper.wp
          go_simp
          exact ⟨.int .i64 (i : Int), rfl, (by first | exact HC.out | exact fun _ => HC.out), (fun hz => hz), rfl⟩
        · have h23 : u 23 = .pointer (some ⟨o, 0, none⟩) := hR ⟨5, .data⟩ (by simp) rfl
          have h24 : u 24 = .int .i64 (i : Int) := hR ⟨6, .data⟩ (by simp) rfl
          clear hR
          simp only [h23, h24]
          clear h23 h24
          refine if_yes (by kernel_rfl) ?_
          unfold Oper.wp
          go_simp
          refine (HTD.out _ HC.out).mono ?_
          rintro e w2 ⟨rfl, hb2⟩
          exact ⟨.agg (lv tn), rfl, (by first | exact HC.out.call hb2 | exact fun _ => HC.out.call hb2), (fun hz => hz.call hb2), rfl⟩
        · clear hR
          refine if_yes (by kernel_rfl) ?_
          unfold Oper.wp
          go_simp
          exact ⟨.pointer (some ⟨bh, 2, none⟩), rfl, (by first | exact HC.out | exact fun _ => HC.out), (fun hz => hz), rfl⟩
        · have h26 : u 26 = .pointer (some ⟨bh, 2, none⟩) := hR ⟨8, .data⟩ (by simp) rfl
          have hc : w'.cell? ⟨bh, 2, none⟩ = some (.int .i64 a) := HC.out.how.cell 2
          clear hR
          simp only [h26]
          clear h26
          refine if_yes (by kernel_rfl) ?_
          unfold Oper.wp
          go_simp
          exact ⟨.int .i64 a, rfl, (by first | exact HC.out | exact fun _ => HC.out), (fun hz => hz), rfl⟩
        · clear hR
          refine if_yes (by kernel_rfl) ?_
          unfold Oper.wp
          go_simp
          exact ⟨.pointer (some ⟨bh, 3, none⟩), rfl, (by first | exact HC.out | exact fun _ => HC.out), (fun hz => hz), rfl⟩
        · have h28 : u 28 = .pointer (some ⟨bh, 3, none⟩) := hR ⟨10, .data⟩ (by simp) rfl
          have hc : w'.cell? ⟨bh, 3, none⟩ = some (.int .i64 b) := HC.out.how.cell 3
          clear hR
          simp only [h28]
          clear h28
          refine if_yes (by kernel_rfl) ?_
          unfold Oper.wp
          go_simp
          exact ⟨.int .i64 b, rfl, (by first | exact HC.out | exact fun _ => HC.out), (fun hz => hz), rfl⟩
        · have h25 : u 25 = .agg (lv tn) := hR ⟨7, .data⟩ (by simp) rfl
          have h27 : u 27 = .int .i64 a := hR ⟨9, .data⟩ (by simp) rfl
          have h29 : u 29 = .int .i64 b := hR ⟨11, .data⟩ (by simp) rfl
          clear hR
          simp only [h25, h27, h29]
          clear h25 h27 h29
          refine if_yes (by kernel_rfl) ?_
          unfold Oper.wp
          go_simp
          refine (HHB.out _).mono ?_
          rintro e w2 ⟨rfl, hb2⟩
          exact ⟨.agg (lv hh), rfl, (by first | exact HC.out.call hb2 | exact fun _ => HC.out.call hb2), (fun hz => hz.call hb2), rfl⟩
        · have h21 : u 21 = .slice (some ⟨g, 0, none⟩) L cap := hR ⟨3, .data⟩ (by simp) rfl
          have h22 : u 22 = .int .i64 (i : Int) := hR ⟨4, .data⟩ (by simp) rfl
          have hlt2 := HLT.out
          clear hR
          simp only [h21, h22]
          clear h21 h22
          refine if_yes (by kernel_rfl) ?_
          unfold Oper.wp
          go_simp
          exact ⟨.pointer (some ⟨g, i * 4, none⟩), rfl, (by first | exact HC.out | exact fun _ => HC.out), (fun hz => hz), rfl⟩
        · have h31 : u 31 = .pointer (some ⟨g, i * 4, none⟩) := hR ⟨13, .data⟩ (by simp) rfl
          have h30 : u 30 = .agg (lv hh) := hR ⟨12, .data⟩ (by simp) rfl
          clear hR
          simp only [h31, h30]
          clear h31 h30
          refine if_yes (by kernel_rfl) ?_
          have hz := HC.out.store HNE.out HLI.out hh
          exact wp_store_mid 121 (.tmp 31) (.tmp 30) rfl g (i * 4) (lv hh) rfl rfl (HC.out.rows i HLI.out).2 size_line (lv_one _) ⟨undef, rfl, fun h => absurd rfl h, (fun _ => hz), fun _ => hz⟩
      · intro a' w' hB hR
        have hz := (hR 14 (by decide)) rfl
        have HZ := Lib.hid hz
        clear hR hz
        obtain ⟨u, rfl⟩ := hB
        rw [← HA.out]
        clear HA HBT
        go_wp2_with fail
        go_roundw
        case rel =>
          have hz := HZ.out
          have hn := HN.out
          have hru := HRU.out.next hlt
          rw [HTN.out, HHH.out] at hru
          have hbx := hz.2.2.cell HC.out.box (fun h => by have h : bc = o ∨ bc = g := h; omega)
          have hhw := HC.out.how.only hz.2.2 (fun h => by have h : bh = o ∨ bh = g := h; omega)
          have hlo := HC.out.low.trans hz.2.2 (fun _ hk => Or.inl hk)
          exact ⟨_, _, _, _, _, _, _, _, _, _, _, _, _, _, _, _, _, _, _, ⟨i + 1, by omega, by go_num, l2.set i hh, hru, by rw [HCS.out]; exact ⟨hz.1, hz.2.1, hbx, hhw, hlo⟩⟩, rfl⟩
        case measure => simp [intOf]; omega
    · have hiL : i = L := by omega
      subst hiL
      have cb := hC.box
      have c2 : wr.cell? ⟨o, 2, none⟩ = some (.int .i64 m) := hC.cell.cell 2
      have f2 := hC.cell.free 2
      clear hru hC
      have hm := HM.out
      by_cases h0 : m = 0
      · subst h0
        go_wp2_with fail
        refine bodyPost_end (results_none rfl _ _ _) rfl ⟨rfl, ?_, ⟨l2, HRU.out, HC.out.rows.set_cell HNE.out 2 _⟩, HC.out.low.setCell ⟨o, 2, none⟩ _ (Or.inl rfl)⟩
        rw [← HM'.out]
        exact HC.out.cell.set 2 _ rfl
      · have hm0 : (m == 0) = false := by simpa using h0
        go_wp2_with fail
        refine bodyPost_end (results_none rfl _ _ _) rfl ⟨rfl, ?_, ⟨l2, HRU.out, HC.out.rows⟩, HC.out.low⟩
        rw [← HM'.out, if_neg h0]
        exact HC.out.cell

set_option maxHeartbeats 1000000 in
theorem ce_erase1_yes (o L g cap : Nat) (bl : ByteArray) (m : Int) (d sl tl : Nat) (bad torn : Bool) (ls : List Ln) (bc bh : Nat) (w : World)
    (hk : Blk w o (cc L g cap bl m d sl tl bad torn) 113) (hl : LnsAt w g ls) (hlen : ls.length = L) (hne : o ≠ g) (h64 : L ≤ 64) (hsl : sl < 1000000000) (htl : tl < 1000000000)
    (hbc : w.cell? ⟨bc, 0, none⟩ = some (.pointer (some ⟨o, 0, none⟩))) (n1 : bc ≠ o) :
    Calls Tryz.prog 102 #[.bool true, .pointer (some ⟨bc, 0, none⟩), .pointer (some ⟨bh, 0, none⟩)] w fun e w' => e = .returned (.tuple #[]) ∧
      Blk w' o (cc L g cap bl 0 0 (if m = 2 then sl else sl + 1) (if m = 2 then tl + 1 else tl) bad false) 113 ∧ LnsAt w' g (List.replicate L (blankL bl)) ∧ Only (FF o g) w w' := by
  obtain ⟨sl', hsl'⟩ : ∃ sl', (if m = 2 then sl else sl + 1) = sl' := ⟨_, rfl⟩
  obtain ⟨tl', htl'⟩ : ∃ tl', (if m = 2 then tl + 1 else tl) = tl' := ⟨_, rfl⟩
  have hcn := ce_count o L g cap bl m d sl tl bad torn w hk hsl htl
  rw [hsl', htl'] at hcn
  rw [hsl', htl']
  have HCN := Lib.hid hcn
  have HL := Lib.hid hl
  have HLEN := Lib.hid hlen
  have HNE := Lib.hid hne
  have HBC := Lib.hid hbc
  have HN := Lib.hid n1
  clear hsl' htl' hcn hl hlen hne n1 hk hsl htl
  go_enter Tryz.func102, Tryz.ntmps102
  go_wp2_with fail
  refine HCN.out.mono ?_
  rintro e w2 ⟨rfl, hk2, ho2⟩
  have hr2 := HL.out.only ho2 (fun h => HNE.out h.symm)
  have cb := ho2.cell HBC.out (fun h => HN.out h)
  have ho3 : Only (FF o g) w w2 := ho2.weak (fun _ h => Or.inl h)
  have HEM := Lib.hid (ce_empty o L g cap bl m d sl' tl' bad torn ls w2 hk2 hr2 HLEN.out HNE.out h64)
  have HO3 := Lib.hid ho3
  clear hk2 hr2 ho2 ho3 HL HCN hbc
  go_wp2_with fail
  refine HEM.out.mono ?_
  rintro e w3 ⟨rfl, h1, h2, h3⟩
  have H1 := Lib.hid h1
  have H2 := Lib.hid h2
  have H3 : Hid (Only (FF o g) w w3) := HO3.out.trans h3 (fun _ hk => Or.inl hk)
  clear h1 h2 h3 HEM
  go_wp2_with fail
  exact bodyPost_ret (results_none rfl _ _ _) rfl ⟨rfl, H1.out, H2.out, H3.out⟩

end Go.Proofs.YtlijndkpgmbapaaGreatDoor
