/- slices.SortStableFunc at faults, walked: blocks, each sorted; then merged two by two. -/
import Derived.Test.YtbpkaegkcknemaaFaS6
namespace Go.Proofs.Ytbpkaegkcknemaa
set_option maxRecDepth 100000
open Go.Shelf Go.RowKit Go.Lib Go.Sort Go.Proofs

/-- sorted blocks of so many, the last one of fewer -/
inductive RunsI (bs : Nat) : List Fa → Prop
  | last (X : List Fa) : X.length ≤ bs → Srt X → RunsI bs X
  | cons (X R : List Fa) : X.length = bs → Srt X → RunsI bs R → RunsI bs (X ++ R)
/-- sorted blocks of so many -/
inductive PreR (bs : Nat) : List Fa → Prop
  | nil : PreR bs []
  | snoc (A X : List Fa) : PreR bs A → X.length = bs → Srt X → PreR bs (A ++ X)
theorem PreR.runs {bs : Nat} {A : List Fa} (h : PreR bs A) : ∀ T, RunsI bs T → RunsI bs (A ++ T) := by
  induction h with
  | nil => intro T hT; exact hT
  | snoc A X _ hl hs ih =>
    intro T hT
    rw [List.append_assoc]
    exact ih _ (RunsI.cons X T hl hs hT)
theorem RunsI.short {bs : Nat} {R : List Fa} (h : RunsI bs R) (hl : R.length ≤ bs) : Srt R := by
  cases h with
  | last _ _ hs => exact hs
  | cons X R1 hx hs _ =>
    have : R1 = [] := List.eq_nil_of_length_eq_zero (by simp at hl; omega)
    subst this
    simpa using hs
theorem RunsI.cut {bs : Nat} {R : List Fa} (h : RunsI bs R) (hl : bs < R.length) : ∃ X R1, R = X ++ R1 ∧ X.length = bs ∧ Srt X ∧ RunsI bs R1 := by
  cases h with
  | last _ h1 _ => omega
  | cons X R1 hx hs hr => exact ⟨X, R1, rfl, hx, hs, hr⟩
theorem RunsI.two {bs : Nat} {R : List Fa} (h : RunsI bs R) (h1 : 1 ≤ bs) (hl : 2 * bs ≤ R.length) : ∃ X Y R1, R = X ++ Y ++ R1 ∧ X.length = bs ∧ Y.length = bs ∧ Srt X ∧ Srt Y ∧ RunsI bs R1 := by
  obtain ⟨X, R1, rfl, hx, hs, hr⟩ := h.cut (by omega)
  rw [List.length_append] at hl
  by_cases hb : bs < R1.length
  · obtain ⟨Y, R2, rfl, hy, hs2, hr2⟩ := hr.cut hb
    exact ⟨X, Y, R2, by simp, hx, hy, hs, hs2, hr2⟩
  · exact ⟨X, R1, [], by simp, hx, by omega, hs, hr.short (by omega), RunsI.last [] (Nat.zero_le _) List.Pairwise.nil⟩

/-- 'cmp' may be called anywhere -/
def CmpF (P : Program) (g : Nat) : Prop := ∀ (x y : Fa) (W : World), Calls P g #[.agg (encF x).toArray, .agg (encF y).toArray] W fun e w' => e = .returned (.int .i64 (cfF x y)) ∧ ∃ q os, w' = grow (W.drewN q) os
theorem CmpF.lays {P : Program} {g : Nat} (h : CmpF P g) (k blk off size : Nat) (w : World) : CmpLays P g #[] encF k cfF blk off size w := fun _ _ _ _ x y => h x y _
theorem row4 {w0 : World} {blk off : Nat} {d0 : Array Fa} (hH : HoldsK encF 4 w0 blk off d0) (hb : blk < w0.heap.size) : Go.Proofs.RowK encF 4 w0 blk off d0 := ⟨encF_len, encF_one, hH, hb⟩

theorem fa_ins (g : Nat) (eg : ∀ args w, (callFunc g args).run Try.prog w = .ok (.enter g args) w) (hC : CmpF Try.prog g) (blk off cap a b : Nat) (d0 d : Array Fa) (A X B : List Fa) (w0 w : World)
    (R : Go.Proofs.RowK encF 4 w0 blk off d0) (hs : d0.size = d.size) (S : SWK encF 4 w0 blk off d w) (hsz : d.size < 4611686018427387904) (h : d.toList = A ++ X ++ B) (ha : a = A.length) (hb : b = A.length + X.length) :
    Calls Try.prog 38 #[.slice (some ⟨blk, off, none⟩) d.size cap, .int .i64 a, .int .i64 b, .func (.func g) #[] #[]] w fun e w' =>
      e = .returned (.tuple #[]) ∧ ∃ d' X', d'.size = d.size ∧ d'.toList = A ++ X' ++ B ∧ X'.length = X.length ∧ Srt X' ∧ St X X' ∧ SWK encF 4 w0 blk off d' w' := by
  have hz : d.size = A.length + X.length + B.length := by rw [arr_size h]; simp; omega
  have hcall := AnyQ.insertionSortCmpFunc Try.ins 4 Try.isAgg26 Try.sizeOf26 encF encF_len encF_one cfF g #[] blk off cap a b d w eg (hC.lays 4 blk off d.size w) (S.holds R.hblk R.hH hs.symm) (S.lt R.hblk) (by omega) (by omega) hsz
  refine Calls.mono (P := Try.prog) (f := 38) hcall ?_
  rintro e w' ⟨rfl, n, os, rfl⟩
  obtain ⟨X', h1, h2, h3, h4⟩ := ins_list h ha hb
  have hz2 := (insertionSort_holds (lt := ltOf cfF) swoF d a b (by omega) (by omega)).1.1
  exact ⟨rfl, _, X', hz2, h1, h2, h3, h4, S.on R.hblk n _ os hz2⟩

/-- where the sort stands in its first part, and in its second -/
def Fst (d dk : Array Fa) (a : Nat) : Prop := ∃ A R, dk.toList = A ++ R ∧ A.length = a ∧ PreR 20 A ∧ St d.toList dk.toList
def Snd (d dk : Array Fa) (bs a : Nat) : Prop := ∃ A R, dk.toList = A ++ R ∧ A.length = a ∧ PreR (2 * bs) A ∧ RunsI bs R ∧ St d.toList dk.toList
def Alls (d dk : Array Fa) (bs : Nat) : Prop := RunsI bs dk.toList ∧ St d.toList dk.toList
theorem St.part {A X X' B L : List Fa} (h : St L (A ++ X ++ B)) (k : St X X') : St L (A ++ X' ++ B) := h.trans (((St.refl A).app k).app (St.refl B))

set_option maxHeartbeats 8000000 in
theorem fa_stable (g : Nat) (eg : ∀ args w, (callFunc g args).run Try.prog w = .ok (.enter g args) w) (hC : CmpF Try.prog g) (blk off cap : Nat) (d : Array Fa) (w : World) (R : Go.Proofs.RowK encF 4 w blk off d) (hsz : d.size ≤ 1000000) :
    Calls Try.prog 36 #[.slice (some ⟨blk, off, none⟩) d.size cap, .int .i64 d.size, .func (.func g) #[] #[]] w fun e w' =>
      e = .returned (.tuple #[]) ∧ ∃ d' : Array Fa, d'.size = d.size ∧ Srt d'.toList ∧ St d.toList d'.toList ∧ SWK encF 4 w blk off d' w' := by
  have HC := Lib.hid hC
  have HR := Lib.hid R
  have HINS := Lib.hid (fa_ins g eg hC blk off cap)
  have HSYM := Lib.hid (sw_sym prgA g #[] eg blk off cap d w (hC.lays 4 blk off d.size w) R)
  have S0 : Aside (SWK encF 4 w blk off d w) := SWK.start R.hH
  obtain ⟨n, hn⟩ : ∃ n, d.size = n := ⟨_, rfl⟩
  have HN := Lib.hid hn
  have F0 : Hid (Fst d d 0) := ⟨[], d.toList, by simp, rfl, PreR.nil, St.refl _⟩
  rw [hn] at hsz ⊢
  clear hC R hn eg
  go_enter Try.func36, Try.ntmps36
  go_wp2
  go_loopg [7, 8] n (fun kx s7 s8 wr => ∃ (a : Nat) (dk : Array Fa), s7 = .int .i64 a ∧ s8 = .int .i64 (a + 20 : Nat) ∧ a ≤ n ∧ n - a ≤ kx ∧ dk.size = n ∧ Aside (SWK encF 4 w blk off dk wr) ∧ Hid (Fst d dk a))
  case atStart => exact ⟨0, d, rfl, rfl, Nat.zero_le _, Nat.le_refl _, HN.out, S0, F0⟩
  case round =>
    clear S0 F0
    obtain ⟨a, dk, rfl, rfl, ha, hkx, hdk, S1, F1⟩ := hrel
    by_cases hlt : a + 20 ≤ n
    · have hltz : ((a + 20 : Nat) : Int) ≤ (n : Int) := by omega
      obtain ⟨A, RR, hL, hA, hP, hSt⟩ := F1.out
      have hlr : dk.size = A.length + RR.length := by rw [arr_size hL]; simp
      have e := List.take_append_drop 20 RR
      have hl1 : (RR.take 20).length = 20 := by rw [List.length_take]; omega
      generalize RR.take 20 = X at e hl1
      generalize RR.drop 20 = B at e
      subst e
      have hL2 : dk.toList = A ++ X ++ B := by rw [hL]; simp
      have hcall := HINS.out a (a + 20) d dk A X B w wr HR.out (by rw [hdk]; exact HN.out) S1.out (by omega) hL2 hA.symm (by omega)
      rw [hdk] at hcall
      have HKEEP := Lib.hid (show PreR 20 A ∧ St d.toList (A ++ X ++ B) ∧ A.length = a from ⟨hP, by rw [← hL2]; exact hSt, hA⟩)
      have HX := Lib.hid hl1
      clear S1 F1 hL hA hP hSt hlr hl1 hL2
      go_wp2_with fail
      refine hcall.mono ?_
      rintro r w1 ⟨rfl, d', X', hz', hl', hx', hs', hst', S2'⟩
      have S2 : Aside (SWK encF 4 w blk off d' w1) := S2'
      have F2 : Hid (Fst d d' (a + 20)) := ⟨A ++ X', B, hl', by rw [List.length_append, hx', HX.out, HKEEP.out.2.2], PreR.snoc A X' HKEEP.out.1 (hx'.trans HX.out) hs', by rw [hl']; exact HKEEP.out.2.1.part hst'⟩
      clear hcall hl' hx' hs' hst' S2'
      go_wp2
      go_roundg (n - (a + 20))
      case measure => omega
      case rel => exact ⟨a + 20, d', rfl, by go_num, by omega, Nat.le_refl _, hz', S2, F2⟩
    · have hltz : ¬ ((a + 20 : Nat) : Int) ≤ (n : Int) := by omega
      obtain ⟨A, RR, hL, hA, hP, hSt⟩ := F1.out
      have hlr : dk.size = A.length + RR.length := by rw [arr_size hL]; simp
      have hL2 : dk.toList = A ++ RR ++ [] := by rw [hL]; simp
      have hcall := HINS.out a n d dk A RR [] w wr HR.out (by rw [hdk]; exact HN.out) S1.out (by omega) hL2 hA.symm (by omega)
      rw [hdk] at hcall
      have HKEEP := Lib.hid (show PreR 20 A ∧ St d.toList (A ++ RR ++ []) ∧ RR.length ≤ 20 from ⟨hP, by rw [← hL2]; exact hSt, by omega⟩)
      clear S1 F1 hL hA hP hSt hlr hL2
      go_wp2_with fail
      refine hcall.mono ?_
      rintro r w1 ⟨rfl, d1, X', hz1, hl', hx', hs', hst', S2'⟩
      have S2 : Aside (SWK encF 4 w blk off d1 w1) := S2'
      have G2 : Hid (Alls d d1 20) := ⟨by rw [hl', List.append_nil]; exact HKEEP.out.1.runs _ (RunsI.last X' (by rw [hx']; exact HKEEP.out.2.2) hs'), by rw [hl']; exact HKEEP.out.2.1.part hst'⟩
      have hd1 : d1.size = n := hz1
      clear hcall hl' hx' hs' hst' S2' HKEEP hz1 hdk
      go_wp2
      go_loopg [6, 7, 8, 9] n (fun kx s6 _ _ _ wr => ∃ (bs : Nat) (dk : Array Fa), s6 = .int .i64 bs ∧ 1 ≤ bs ∧ bs ≤ 2 * n + 20 ∧ n - bs ≤ kx ∧ dk.size = n ∧ Aside (SWK encF 4 w blk off dk wr) ∧ Hid (Alls d dk bs))
      case atStart => exact ⟨20, d1, rfl, by omega, by omega, by omega, hd1, S2, G2⟩
      case round =>
        clear S2 G2 hd1
        obtain ⟨bs, dk, rfl, hb1, hb2, hkx2, hdk, S1, G1⟩ := hrel
        by_cases hlt2 : bs < n
        · have hlt2z : (bs : Int) < (n : Int) := by omega
          have HS0 : Hid (Snd d dk bs 0) := ⟨[], dk.toList, by simp, rfl, PreR.nil, G1.out.1, G1.out.2⟩
          clear G1
          go_wp2
          go_loopg [7, 8] n (fun kx s7 s8 wr => ∃ (a : Nat) (dk : Array Fa), s7 = .int .i64 a ∧ s8 = .int .i64 (a + 2 * bs : Nat) ∧ a ≤ n ∧ n - a ≤ kx ∧ dk.size = n ∧ Aside (SWK encF 4 w blk off dk wr) ∧ Hid (Snd d dk bs a))
          case atStart => exact ⟨0, dk, rfl, by go_num, Nat.zero_le _, by omega, hdk, S1, HS0⟩
          case round =>
            clear S1 HS0 hdk
            obtain ⟨a, dk, rfl, rfl, ha, hkx3, hdk, S1, F1⟩ := hrel
            obtain ⟨A, RR, hL, hA, hP, hRr, hSt⟩ := F1.out
            have hlr : dk.size = A.length + RR.length := by rw [arr_size hL]; simp
            by_cases hlt3 : a + 2 * bs ≤ n
            · have hlt3z : ((a + 2 * bs : Nat) : Int) ≤ (n : Int) := by omega
              obtain ⟨X, Y, B, rfl, hx, hy, sx, sy, hrb⟩ := hRr.two hb1 (by omega)
              have hcall := HSYM.out (2 * bs) a (a + bs) (a + 2 * bs) dk A X Y B wr (by omega) (by rw [hdk]; exact HN.out) S1.out (by omega) (by omega) (by omega) ⟨by rw [hL]; simp, hA.symm, by omega, by omega, sx, sy⟩
              rw [hdk] at hcall
              have HKEEP := Lib.hid (show PreR (2 * bs) A ∧ St d.toList (A ++ (X ++ Y) ++ B) ∧ A.length = a ∧ RunsI bs B ∧ dk.toList = A ++ (X ++ Y) ++ B ∧ (X ++ Y).length = 2 * bs from ⟨hP, by rw [hL] at hSt; simpa using hSt, hA, hrb, by rw [hL]; simp, by simp; omega⟩)
              clear S1 F1 hL hA hP hRr hSt hlr hx hy sx sy hrb
              go_wp2_with fail
              refine hcall.mono ?_
              rintro r w1 ⟨rfl, d', hz', ⟨Z, hl', hs', hst'⟩, S2'⟩
              have S2 : Aside (SWK encF 4 w blk off d' w1) := S2'
              have hzl : Z.length = 2 * bs := by
                have e1 := arr_size hl'
                have e2 := arr_size HKEEP.out.2.2.2.2.1
                have e3 := HKEEP.out.2.2.2.2.2
                rw [List.length_append, List.length_append] at e1 e2
                omega
              have F2 : Hid (Snd d d' bs (a + 2 * bs)) := ⟨A ++ Z, B, hl', by rw [List.length_append, hzl, HKEEP.out.2.2.1], PreR.snoc A Z HKEEP.out.1 hzl hs', HKEEP.out.2.2.2.1, by rw [hl']; exact HKEEP.out.2.1.part hst'⟩
              clear hcall hl' hs' hst' S2' hzl HKEEP
              go_wp2
              go_roundg (n - (a + 2 * bs))
              case measure => omega
              case rel => exact ⟨a + 2 * bs, d', by go_num, by go_num, by omega, Nat.le_refl _, hz', S2, F2⟩
            · have hlt3z : ¬ ((a + 2 * bs : Nat) : Int) ≤ (n : Int) := by omega
              by_cases hm : a + bs < n
              · have hmz : (a : Int) + (bs : Int) < (n : Int) := by omega
                obtain ⟨X, Y, rfl, hx, sx, hrb⟩ := hRr.cut (by omega)
                have sy : Srt Y := hrb.short (by rw [List.length_append] at hlr; omega)
                have hyl : Y.length = n - (a + bs) := by rw [List.length_append] at hlr; omega
                have hcall := HSYM.out (2 * bs) a (a + bs) n dk A X Y [] wr (by omega) (by rw [hdk]; exact HN.out) S1.out (by omega) hm (by omega) ⟨by rw [hL]; simp, hA.symm, by omega, by omega, sx, sy⟩
                rw [hdk] at hcall
                have HKEEP := Lib.hid (show PreR (2 * bs) A ∧ St d.toList (A ++ (X ++ Y) ++ []) ∧ dk.toList = A ++ (X ++ Y) ++ [] ∧ (X ++ Y).length ≤ 2 * bs from ⟨hP, by rw [hL] at hSt; simpa using hSt, by rw [hL]; simp, by simp; omega⟩)
                clear S1 F1 hL hA hP hRr hSt hlr hx sx sy hrb hyl
                go_wp2_with fail
                refine hcall.mono ?_
                rintro r w1 ⟨rfl, d', hz', ⟨Z, hl', hs', hst'⟩, S2'⟩
                have S2 : Aside (SWK encF 4 w blk off d' w1) := S2'
                have hzl : Z.length ≤ 2 * bs := by
                  have e1 := arr_size hl'
                  have e2 := arr_size HKEEP.out.2.2.1
                  have e3 := HKEEP.out.2.2.2
                  rw [List.length_append, List.length_append] at e1 e2
                  omega
                have G2 : Hid (Alls d d' (2 * bs)) := ⟨by rw [hl', List.append_nil]; exact HKEEP.out.1.runs _ (RunsI.last Z hzl hs'), by rw [hl']; exact HKEEP.out.2.1.part hst'⟩
                have hd' : d'.size = n := hz'
                clear hcall hl' hs' hst' S2' hzl HKEEP hz'
                go_wp2
                go_roundg (n - 2 * bs)
                case measure => omega
                case rel => exact ⟨2 * bs, d', by go_num, by omega, by omega, Nat.le_refl _, hd', S2, G2⟩
              · have hmz : ¬ (a : Int) + (bs : Int) < (n : Int) := by omega
                have G2 : Hid (Alls d dk (2 * bs)) := ⟨by rw [hL]; exact hP.runs _ (RunsI.last RR (by omega) (hRr.short (by omega))), hSt⟩
                clear F1 hL hA hP hRr hSt hlr
                go_wp2
                go_roundg (n - 2 * bs)
                case measure => omega
                case rel => exact ⟨2 * bs, dk, by go_num, by omega, by omega, Nat.le_refl _, hdk, S1, G2⟩
        · have hlt2z : ¬ (bs : Int) < (n : Int) := by omega
          go_wp2
          go_end0
          exact ⟨rfl, dk, hdk, G1.out.1.short (by rw [Array.length_toList]; omega), G1.out.2, S1.out⟩

set_option maxHeartbeats 1000000 in
theorem fa_sort (g : Nat) (eg : ∀ args w, (callFunc g args).run Try.prog w = .ok (.enter g args) w) (hC : CmpF Try.prog g) (blk off cap : Nat) (d : Array Fa) (w : World) (R : Go.Proofs.RowK encF 4 w blk off d) (hsz : d.size ≤ 1000000) :
    Calls Try.prog 28 #[.slice (some ⟨blk, off, none⟩) d.size cap, .func (.func g) #[] #[]] w fun e w' =>
      e = .returned (.tuple #[]) ∧ ∃ d' : Array Fa, d'.size = d.size ∧ Srt d'.toList ∧ St d.toList d'.toList ∧ SWK encF 4 w blk off d' w' := by
  have hcon := fa_stable g eg hC blk off cap d w R hsz
  obtain ⟨n, hn⟩ : ∃ n, d.size = n := ⟨_, rfl⟩
  rw [hn] at hcon hsz ⊢
  clear hC R eg hn
  have HCON := Lib.hid hcon
  clear hcon
  go_enter Try.func28, Try.ntmps28
  go_wp2_with fail
  refine HCON.out.mono ?_
  rintro r w1 ⟨rfl, hx⟩
  have HX := Lib.hid hx
  clear hx HCON
  go_wp2_with fail
  go_end0
  exact ⟨rfl, HX.out⟩

/-- the order of Ahead -/
theorem cmpF_ahead : CmpF Try.prog 29 := by
  intro x y W
  obtain ⟨x1, x2, x3, x4⟩ := x
  obtain ⟨y1, y2, y3, y4⟩ := y
  have hcon : ∀ W', Calls Try.prog 30 #[.int .i64 x1, .int .i64 y1] W' fun e w' => e = .returned (.int .i64 (Lib.compareInt x1 y1)) ∧ w' = W' := fun W' => AnyG.cmp_Compare_int Try.cmpInt x1 y1 W'
  show Calls Try.prog 29 #[.agg #[.int .i64 x1, .int .i64 x2, .int .i64 x3, .int .i64 x4], .agg #[.int .i64 y1, .int .i64 y2, .int .i64 y3, .int .i64 y4]] W fun e w' => e = .returned (.int .i64 (Lib.compareInt x1 y1)) ∧ ∃ q os, w' = grow (W.drewN q) os
  generalize Lib.compareInt x1 y1 = r at hcon ⊢
  go_enter Try.func29, Try.ntmps29
  go_wp2_with (go_at_call 30; refine (hcon _).mono ?_; rintro e w' ⟨rfl, rfl⟩)
  go_ret
  exact ⟨rfl, 0, _, by rw [alloc_eq_grow, alloc_eq_grow, grow_grow]; rfl⟩

end Go.Proofs.Ytbpkaegkcknemaa
