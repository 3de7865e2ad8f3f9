/- Texts of one claim, merged: FaS6, FaS8, FaE, FaC4, FaC5, FaC7, FaI, ChC1, ChC2, ChC3. -/
import Derived.Test.YtlijndkpgmbapaaGreatDoorS9
import Derived.Test.YtlijndkpgmbapaaGreatDoorS10
import Derived.Test.YtlijndkpgmbapaaGreatDoorS6
import Derived.Laws.StructEq
import Derived.Test.YtlijndkpgmbapaaGreatDoorS1
import Derived.Laws.AppendOwn
import Derived.Test.YtlijndkpgmbapaaGreatDoorS2
import Derived.RangeFuncBox
import Derived.OwnWalkIn
import Derived.Test.YtlijndkpgmbapaaGreatDoorS7
import Derived.Test.YtlijndkpgmbapaaGreatDoorS3

/- slices.symMergeCmpFunc at faults: its contract, from its cases. Written by wip/tools/mkfas2.py. -/
namespace Go.Proofs.YtlijndkpgmbapaaGreatDoor
open Go.Shelf Go.RowKit Go.Lib Go.Sort Go.Proofs

theorem sw_sym {P : Program} {k : Nat} (L : Prg P k) (g : Nat) (cb : Array Value) (eg : ∀ args w, (callFunc g args).run P w = .ok (.enter g args) w) (blk off cap : Nat) (d0 : Array Fa) (w0 : World) (hcmp : CmpLays P g cb encF k cfF blk off d0.size w0) (R : RowK encF k w0 blk off d0) :
    ∀ N, SymC P k g cb blk off cap d0 w0 N
  | 0 => fun a m b d A X Y B w hN hs S ham hmb hsz hL => by omega
  | N + 1 => fun a m b d A X Y B w hN hs S ham hmb hsz hL => by
    have IH := sw_sym L g cb eg blk off cap d0 w0 hcmp R N
    by_cases h1 : m = a + 1
    · exact sw_sym1 L g cb eg blk off cap d0 w0 hcmp R N a m b d A X Y B w IH hN hs S ham hmb hsz hL h1
    · by_cases h2 : b = m + 1
      · exact sw_sym2 L g cb eg blk off cap d0 w0 hcmp R N a m b d A X Y B w IH hN hs S ham hmb hsz hL h1 h2
      · by_cases h3 : (a + b) / 2 < m
        · exact sw_sym3 L g cb eg blk off cap d0 w0 hcmp R N a m b d A X Y B w IH hN hs S ham hmb hsz hL h1 h2 h3
        · exact sw_sym4 L g cb eg blk off cap d0 w0 hcmp R N a m b d A X Y B w IH hN hs S ham hmb hsz hL h1 h2 h3

end Go.Proofs.YtlijndkpgmbapaaGreatDoor

/- slices.SortStableFunc at faults, walked: blocks, each sorted; then merged two by two. -/
namespace Go.Proofs.YtlijndkpgmbapaaGreatDoor
set_option maxRecDepth 100000
open Go.Shelf Go.RowKit Go.Lib Go.Sort Go.Proofs

/-- sorted blocks of so many, the last one of fewer -/
inductive RunsI (bs : Nat) : List Fa → Prop
  | last (X : List Fa) : X.length ≤ bs → Srt X → RunsI bs X
  | cons (X R : List Fa) : X.length = bs → Srt X → RunsI bs R → RunsI bs (X ++ R)
/-- sorted blocks of so many -/
inductive PreR (bs : Nat) : List Fa → Prop
  | nil : PreR bs []
  | snoc (A X : List Fa) : PreR bs A → X.length = bs → Srt X → PreR bs (A ++ X)
theorem PreR.runs {bs : Nat} {A : List Fa} (h : PreR bs A) : ∀ T, RunsI bs T → RunsI bs (A ++ T) := by
  induction h with
  | nil => intro T hT; exact hT
  | snoc A X _ hl hs ih =>
    intro T hT
    rw [List.append_assoc]
    exact ih _ (RunsI.cons X T hl hs hT)
theorem RunsI.short {bs : Nat} {R : List Fa} (h : RunsI bs R) (hl : R.length ≤ bs) : Srt R := by
  cases h with
  | last _ _ hs => exact hs
  | cons X R1 hx hs _ =>
    have : R1 = [] := List.eq_nil_of_length_eq_zero (by simp at hl; omega)
    subst this
    simpa using hs
theorem RunsI.cut {bs : Nat} {R : List Fa} (h : RunsI bs R) (hl : bs < R.length) : ∃ X R1, R = X ++ R1 ∧ X.length = bs ∧ Srt X ∧ RunsI bs R1 := by
  cases h with
  | last _ h1 _ => omega
  | cons X R1 hx hs hr => exact ⟨X, R1, rfl, hx, hs, hr⟩
theorem RunsI.two {bs : Nat} {R : List Fa} (h : RunsI bs R) (h1 : 1 ≤ bs) (hl : 2 * bs ≤ R.length) : ∃ X Y R1, R = X ++ Y ++ R1 ∧ X.length = bs ∧ Y.length = bs ∧ Srt X ∧ Srt Y ∧ RunsI bs R1 := by
  obtain ⟨X, R1, rfl, hx, hs, hr⟩ := h.cut (by omega)
  rw [List.length_append] at hl
  by_cases hb : bs < R1.length
  · obtain ⟨Y, R2, rfl, hy, hs2, hr2⟩ := hr.cut hb
    exact ⟨X, Y, R2, by simp, hx, hy, hs, hs2, hr2⟩
  · exact ⟨X, R1, [], by simp, hx, by omega, hs, hr.short (by omega), RunsI.last [] (Nat.zero_le _) List.Pairwise.nil⟩

/-- 'cmp' may be called anywhere -/
def CmpF (P : Program) (g : Nat) : Prop := ∀ (x y : Fa) (W : World), Calls P g #[.agg (encF x).toArray, .agg (encF y).toArray] W fun e w' => e = .returned (.int .i64 (cfF x y)) ∧ ∃ q os, w' = grow (W.drewN q) os
theorem CmpF.lays {P : Program} {g : Nat} (h : CmpF P g) (k blk off size : Nat) (w : World) : CmpLays P g #[] encF k cfF blk off size w := fun _ _ _ _ x y => h x y _
theorem row4 {w0 : World} {blk off : Nat} {d0 : Array Fa} (hH : HoldsK encF 4 w0 blk off d0) (hb : blk < w0.heap.size) : Go.Proofs.RowK encF 4 w0 blk off d0 := ⟨encF_len, encF_one, hH, hb⟩

theorem fa_ins (g : Nat) (eg : ∀ args w, (callFunc g args).run Tryz.prog w = .ok (.enter g args) w) (hC : CmpF Tryz.prog g) (blk off cap a b : Nat) (d0 d : Array Fa) (A X B : List Fa) (w0 w : World)
    (R : Go.Proofs.RowK encF 4 w0 blk off d0) (hs : d0.size = d.size) (S : SWK encF 4 w0 blk off d w) (hsz : d.size < 4611686018427387904) (h : d.toList = A ++ X ++ B) (ha : a = A.length) (hb : b = A.length + X.length) :
    Calls Tryz.prog 168 #[.slice (some ⟨blk, off, none⟩) d.size cap, .int .i64 a, .int .i64 b, .func (.func g) #[] #[]] w fun e w' =>
      e = .returned (.tuple #[]) ∧ ∃ d' X', d'.size = d.size ∧ d'.toList = A ++ X' ++ B ∧ X'.length = X.length ∧ Srt X' ∧ StbF X X' ∧ SWK encF 4 w0 blk off d' w' := by
  have hz : d.size = A.length + X.length + B.length := by rw [arr_size h]; simp; omega
  have hcall := AnyQ.insertionSortCmpFunc Tryz.ins 4 Tryz.isAgg40 Tryz.sizeOf40 encF encF_len encF_one cfF g #[] blk off cap a b d w eg (hC.lays 4 blk off d.size w) (S.holds R.hblk R.hH hs.symm) (S.lt R.hblk) (by omega) (by omega) hsz
  refine Calls.mono (P := Tryz.prog) (f := 168) hcall ?_
  rintro e w' ⟨rfl, n, os, rfl⟩
  obtain ⟨X', h1, h2, h3, h4⟩ := ins_list h ha hb
  have hz2 := (insertionSort_holds (lt := ltOf cfF) swoF d a b (by omega) (by omega)).1.1
  exact ⟨rfl, _, X', hz2, h1, h2, h3, h4, S.on R.hblk n _ os hz2⟩

/-- where the sort stands in its first part, and in its second -/
def Fst (d dk : Array Fa) (a : Nat) : Prop := ∃ A R, dk.toList = A ++ R ∧ A.length = a ∧ PreR 20 A ∧ StbF d.toList dk.toList
def Snd (d dk : Array Fa) (bs a : Nat) : Prop := ∃ A R, dk.toList = A ++ R ∧ A.length = a ∧ PreR (2 * bs) A ∧ RunsI bs R ∧ StbF d.toList dk.toList
def Alls (d dk : Array Fa) (bs : Nat) : Prop := RunsI bs dk.toList ∧ StbF d.toList dk.toList
theorem StbF.part {A X X' B L : List Fa} (h : StbF L (A ++ X ++ B)) (k : StbF X X') : StbF L (A ++ X' ++ B) := h.trans (((StbF.refl A).app k).app (StbF.refl B))

set_option maxHeartbeats 8000000 in
theorem fa_stable (g : Nat) (eg : ∀ args w, (callFunc g args).run Tryz.prog w = .ok (.enter g args) w) (hC : CmpF Tryz.prog g) (blk off cap : Nat) (d : Array Fa) (w : World) (R : Go.Proofs.RowK encF 4 w blk off d) (hsz : d.size ≤ 1000000) :
    Calls Tryz.prog 152 #[.slice (some ⟨blk, off, none⟩) d.size cap, .int .i64 d.size, .func (.func g) #[] #[]] w fun e w' =>
      e = .returned (.tuple #[]) ∧ ∃ d' : Array Fa, d'.size = d.size ∧ Srt d'.toList ∧ StbF d.toList d'.toList ∧ SWK encF 4 w blk off d' w' := by
  have HC := Lib.hid hC
  have HR := Lib.hid R
  have HINS := Lib.hid (fa_ins g eg hC blk off cap)
  have HSYM := Lib.hid (sw_sym prgA g #[] eg blk off cap d w (hC.lays 4 blk off d.size w) R)
  have S0 : Aside (SWK encF 4 w blk off d w) := SWK.start R.hH
  obtain ⟨n, hn⟩ : ∃ n, d.size = n := ⟨_, rfl⟩
  have HN := Lib.hid hn
  have F0 : Hid (Fst d d 0) := ⟨[], d.toList, by simp, rfl, PreR.nil, StbF.refl _⟩
  rw [hn] at hsz ⊢
  clear hC R hn eg
  go_enter Tryz.func152, Tryz.ntmps152
  go_wp2
  go_loopg [7, 8] n (fun kx s7 s8 wr => ∃ (a : Nat) (dk : Array Fa), s7 = .int .i64 a ∧ s8 = .int .i64 (a + 20 : Nat) ∧ a ≤ n ∧ n - a ≤ kx ∧ dk.size = n ∧ Aside (SWK encF 4 w blk off dk wr) ∧ Hid (Fst d dk a))
  case atStart => exact ⟨0, d, rfl, rfl, Nat.zero_le _, Nat.le_refl _, HN.out, S0, F0⟩
  case round =>
    clear S0 F0
    obtain ⟨a, dk, rfl, rfl, ha, hkx, hdk, S1, F1⟩ := hrel
    by_cases hlt : a + 20 ≤ n
    · have hltz : ((a + 20 : Nat) : Int) ≤ (n : Int) := by omega
      obtain ⟨A, RR, hL, hA, hP, hSt⟩ := F1.out
      have hlr : dk.size = A.length + RR.length := by rw [arr_size hL]; simp
      have e := List.take_append_drop 20 RR
      have hl1 : (RR.take 20).length = 20 := by rw [List.length_take]; omega
      generalize RR.take 20 = X at e hl1
      generalize RR.drop 20 = B at e
      subst e
      have hL2 : dk.toList = A ++ X ++ B := by rw [hL]; simp
      have hcall := HINS.out a (a + 20) d dk A X B w wr HR.out (by rw [hdk]; exact HN.out) S1.out (by omega) hL2 hA.symm (by omega)
      rw [hdk] at hcall
      have HKEEP := Lib.hid (show PreR 20 A ∧ StbF d.toList (A ++ X ++ B) ∧ A.length = a from ⟨hP, by rw [← hL2]; exact hSt, hA⟩)
      have HX := Lib.hid hl1
      clear S1 F1 hL hA hP hSt hlr hl1 hL2
      go_wp2_with fail
      refine hcall.mono ?_
      rintro r w1 ⟨rfl, d', X', hz', hl', hx', hs', hst', S2'⟩
      have S2 : Aside (SWK encF 4 w blk off d' w1) := S2'
      have F2 : Hid (Fst d d' (a + 20)) := ⟨A ++ X', B, hl', by rw [List.length_append, hx', HX.out, HKEEP.out.2.2], PreR.snoc A X' HKEEP.out.1 (hx'.trans HX.out) hs', by rw [hl']; exact HKEEP.out.2.1.part hst'⟩
      clear hcall hl' hx' hs' hst' S2'
      go_wp2
      go_roundg (n - (a + 20))
      case measure => omega
      case rel => exact ⟨a + 20, d', rfl, by go_num, by omega, Nat.le_refl _, hz', S2, F2⟩
    · have hltz : ¬ ((a + 20 : Nat) : Int) ≤ (n : Int) := by omega
      obtain ⟨A, RR, hL, hA, hP, hSt⟩ := F1.out
      have hlr : dk.size = A.length + RR.length := by rw [arr_size hL]; simp
      have hL2 : dk.toList = A ++ RR ++ [] := by rw [hL]; simp
      have hcall := HINS.out a n d dk A RR [] w wr HR.out (by rw [hdk]; exact HN.out) S1.out (by omega) hL2 hA.symm (by omega)
      rw [hdk] at hcall
      have HKEEP := Lib.hid (show PreR 20 A ∧ StbF d.toList (A ++ RR ++ []) ∧ RR.length ≤ 20 from ⟨hP, by rw [← hL2]; exact hSt, by omega⟩)
      clear S1 F1 hL hA hP hSt hlr hL2
      go_wp2_with fail
      refine hcall.mono ?_
      rintro r w1 ⟨rfl, d1, X', hz1, hl', hx', hs', hst', S2'⟩
      have S2 : Aside (SWK encF 4 w blk off d1 w1) := S2'
      have G2 : Hid (Alls d d1 20) := ⟨by rw [hl', List.append_nil]; exact HKEEP.out.1.runs _ (RunsI.last X' (by rw [hx']; exact HKEEP.out.2.2) hs'), by rw [hl']; exact HKEEP.out.2.1.part hst'⟩
      have hd1 : d1.size = n := hz1
      clear hcall hl' hx' hs' hst' S2' HKEEP hz1 hdk
      go_wp2
      go_loopg [6, 7, 8, 9] n (fun kx s6 _ _ _ wr => ∃ (bs : Nat) (dk : Array Fa), s6 = .int .i64 bs ∧ 1 ≤ bs ∧ bs ≤ 2 * n + 20 ∧ n - bs ≤ kx ∧ dk.size = n ∧ Aside (SWK encF 4 w blk off dk wr) ∧ Hid (Alls d dk bs))
      case atStart => exact ⟨20, d1, rfl, by omega, by omega, by omega, hd1, S2, G2⟩
      case round =>
        clear S2 G2 hd1
        obtain ⟨bs, dk, rfl, hb1, hb2, hkx2, hdk, S1, G1⟩ := hrel
        by_cases hlt2 : bs < n
        · have hlt2z : (bs : Int) < (n : Int) := by omega
          have HS0 : Hid (Snd d dk bs 0) := ⟨[], dk.toList, by simp, rfl, PreR.nil, G1.out.1, G1.out.2⟩
          clear G1
          go_wp2
          go_loopg [7, 8] n (fun kx s7 s8 wr => ∃ (a : Nat) (dk : Array Fa), s7 = .int .i64 a ∧ s8 = .int .i64 (a + 2 * bs : Nat) ∧ a ≤ n ∧ n - a ≤ kx ∧ dk.size = n ∧ Aside (SWK encF 4 w blk off dk wr) ∧ Hid (Snd d dk bs a))
          case atStart => exact ⟨0, dk, rfl, by go_num, Nat.zero_le _, by omega, hdk, S1, HS0⟩
          case round =>
            clear S1 HS0 hdk
            obtain ⟨a, dk, rfl, rfl, ha, hkx3, hdk, S1, F1⟩ := hrel
            obtain ⟨A, RR, hL, hA, hP, hRr, hSt⟩ := F1.out
            have hlr : dk.size = A.length + RR.length := by rw [arr_size hL]; simp
            by_cases hlt3 : a + 2 * bs ≤ n
            · have hlt3z : ((a + 2 * bs : Nat) : Int) ≤ (n : Int) := by omega
              obtain ⟨X, Y, B, rfl, hx, hy, sx, sy, hrb⟩ := hRr.two hb1 (by omega)
              have hcall := HSYM.out (2 * bs) a (a + bs) (a + 2 * bs) dk A X Y B wr (by omega) (by rw [hdk]; exact HN.out) S1.out (by omega) (by omega) (by omega) ⟨by rw [hL]; simp, hA.symm, by omega, by omega, sx, sy⟩
              rw [hdk] at hcall
              have HKEEP := Lib.hid (show PreR (2 * bs) A ∧ StbF d.toList (A ++ (X ++ Y) ++ B) ∧ A.length = a ∧ RunsI bs B ∧ dk.toList = A ++ (X ++ Y) ++ B ∧ (X ++ Y).length = 2 * bs from ⟨hP, by rw [hL] at hSt; simpa using hSt, hA, hrb, by rw [hL]; simp, by simp; omega⟩)
              clear S1 F1 hL hA hP hRr hSt hlr hx hy sx sy hrb
              go_wp2_with fail
              refine hcall.mono ?_
              rintro r w1 ⟨rfl, d', hz', ⟨Z, hl', hs', hst'⟩, S2'⟩
              have S2 : Aside (SWK encF 4 w blk off d' w1) := S2'
              have hzl : Z.length = 2 * bs := by
                have e1 := arr_size hl'
                have e2 := arr_size HKEEP.out.2.2.2.2.1
                have e3 := HKEEP.out.2.2.2.2.2
                rw [List.length_append, List.length_append] at e1 e2
                omega
              have F2 : Hid (Snd d d' bs (a + 2 * bs)) := ⟨A ++ Z, B, hl', by rw [List.length_append, hzl, HKEEP.out.2.2.1], PreR.snoc A Z HKEEP.out.1 hzl hs', HKEEP.out.2.2.2.1, by rw [hl']; exact HKEEP.out.2.1.part hst'⟩
              clear hcall hl' hs' hst' S2' hzl HKEEP
              go_wp2
              go_roundg (n - (a + 2 * bs))
              case measure => omega
              case rel => exact ⟨a + 2 * bs, d', by go_num, by go_num, by omega, Nat.le_refl _, hz', S2, F2⟩
            · have hlt3z : ¬ ((a + 2 * bs : Nat) : Int) ≤ (n : Int) := by omega
              by_cases hm : a + bs < n
              · have hmz : (a : Int) + (bs : Int) < (n : Int) := by omega
                obtain ⟨X, Y, rfl, hx, sx, hrb⟩ := hRr.cut (by omega)
                have sy : Srt Y := hrb.short (by rw [List.length_append] at hlr; omega)
                have hyl : Y.length = n - (a + bs) := by rw [List.length_append] at hlr; omega
                have hcall := HSYM.out (2 * bs) a (a + bs) n dk A X Y [] wr (by omega) (by rw [hdk]; exact HN.out) S1.out (by omega) hm (by omega) ⟨by rw [hL]; simp, hA.symm, by omega, by omega, sx, sy⟩
                rw [hdk] at hcall
                have HKEEP := Lib.hid (show PreR (2 * bs) A ∧ StbF d.toList (A ++ (X ++ Y) ++ []) ∧ dk.toList = A ++ (X ++ Y) ++ [] ∧ (X ++ Y).length ≤ 2 * bs from ⟨hP, by rw [hL] at hSt; simpa using hSt, by rw [hL]; simp, by simp; omega⟩)
                clear S1 F1 hL hA hP hRr hSt hlr hx sx sy hrb hyl
                go_wp2_with fail
                refine hcall.mono ?_
                rintro r w1 ⟨rfl, d', hz', ⟨Z, hl', hs', hst'⟩, S2'⟩
                have S2 : Aside (SWK encF 4 w blk off d' w1) := S2'
                have hzl : Z.length ≤ 2 * bs := by
                  have e1 := arr_size hl'
                  have e2 := arr_size HKEEP.out.2.2.1
                  have e3 := HKEEP.out.2.2.2
                  rw [List.length_append, List.length_append] at e1 e2
                  omega
                have G2 : Hid (Alls d d' (2 * bs)) := ⟨by rw [hl', List.append_nil]; exact HKEEP.out.1.runs _ (RunsI.last Z hzl hs'), by rw [hl']; exact HKEEP.out.2.1.part hst'⟩
                have hd' : d'.size = n := hz'
                clear hcall hl' hs' hst' S2' hzl HKEEP hz'
                go_wp2
                go_roundg (n - 2 * bs)
                case measure => omega
                case rel => exact ⟨2 * bs, d', by go_num, by omega, by omega, Nat.le_refl _, hd', S2, G2⟩
              · have hmz : ¬ (a : Int) + (bs : Int) < (n : Int) := by omega
                have G2 : Hid (Alls d dk (2 * bs)) := ⟨by rw [hL]; exact hP.runs _ (RunsI.last RR (by omega) (hRr.short (by omega))), hSt⟩
                clear F1 hL hA hP hRr hSt hlr
                go_wp2
                go_roundg (n - 2 * bs)
                case measure => omega
                case rel => exact ⟨2 * bs, dk, by go_num, by omega, by omega, Nat.le_refl _, hdk, S1, G2⟩
        · have hlt2z : ¬ (bs : Int) < (n : Int) := by omega
          go_wp2
          go_end0
          exact ⟨rfl, dk, hdk, G1.out.1.short (by rw [Array.length_toList]; omega), G1.out.2, S1.out⟩

set_option maxHeartbeats 1000000 in
theorem fa_sort (g : Nat) (eg : ∀ args w, (callFunc g args).run Tryz.prog w = .ok (.enter g args) w) (hC : CmpF Tryz.prog g) (blk off cap : Nat) (d : Array Fa) (w : World) (R : Go.Proofs.RowK encF 4 w blk off d) (hsz : d.size ≤ 1000000) :
    Calls Tryz.prog 120 #[.slice (some ⟨blk, off, none⟩) d.size cap, .func (.func g) #[] #[]] w fun e w' =>
      e = .returned (.tuple #[]) ∧ ∃ d' : Array Fa, d'.size = d.size ∧ Srt d'.toList ∧ StbF d.toList d'.toList ∧ SWK encF 4 w blk off d' w' := by
  have hcon := fa_stable g eg hC blk off cap d w R hsz
  obtain ⟨n, hn⟩ : ∃ n, d.size = n := ⟨_, rfl⟩
  rw [hn] at hcon hsz ⊢
  clear hC R eg hn
  have HCON := Lib.hid hcon
  clear hcon
  go_enter Tryz.func120, Tryz.ntmps120
  go_wp2_with fail
  refine HCON.out.mono ?_
  rintro r w1 ⟨rfl, hx⟩
  have HX := Lib.hid hx
  clear hx HCON
  go_wp2_with fail
  go_end0
  exact ⟨rfl, HX.out⟩

/-- the order of Ahead -/
theorem cmpF_ahead : CmpF Tryz.prog 121 := by
  intro x y W
  obtain ⟨x1, x2, x3, x4⟩ := x
  obtain ⟨y1, y2, y3, y4⟩ := y
  have hcon : ∀ W', Calls Tryz.prog 122 #[.int .i64 x1, .int .i64 y1] W' fun e w' => e = .returned (.int .i64 (Lib.compareInt x1 y1)) ∧ w' = W' := fun W' => AnyG.cmp_Compare_int Tryz.cmpInt x1 y1 W'
  show Calls Tryz.prog 121 #[.agg #[.int .i64 x1, .int .i64 x2, .int .i64 x3, .int .i64 x4], .agg #[.int .i64 y1, .int .i64 y2, .int .i64 y3, .int .i64 y4]] W fun e w' => e = .returned (.int .i64 (Lib.compareInt x1 y1)) ∧ ∃ q os, w' = grow (W.drewN q) os
  generalize Lib.compareInt x1 y1 = r at hcon ⊢
  go_enter Tryz.func121, Tryz.ntmps121
  go_wp2_with (go_at_call 122; refine (hcon _).mono ?_; rintro e w' ⟨rfl, rfl⟩)
  go_ret
  exact ⟨rfl, 0, _, by rw [alloc_eq_grow, alloc_eq_grow, grow_grow]; rfl⟩

end Go.Proofs.YtlijndkpgmbapaaGreatDoor

/- Are two faults the same: the model's comparison of them. -/
namespace Go.Proofs.YtlijndkpgmbapaaGreatDoor
set_option maxRecDepth 100000
open Go.RowKit Go.Shelf Go.Proofs

/-- a row of one fault, and what a world keeps besides -/
def CMF (w0 : World) (b o : Nat) (x : Fa) (w : World) : Prop := w.rangeAt b o (encF x) ∧ b < w.heap.size ∧ Below w0.heap.size w0 w
theorem CMF.call {w0 w w' : World} {b o : Nat} {x : Fa} (h : CMF w0 b o x w) (hb : Below w.heap.size w w') : CMF w0 b o x w' :=
  ⟨fun j v hj => by rw [World.cell?_of_block (w := w) (hb.block b h.2.1)]; exact h.1 j v hj, Nat.lt_of_lt_of_le h.2.1 hb.size, h.2.2.trans (hb.mono h.2.2.size)⟩
end Go.Proofs.YtlijndkpgmbapaaGreatDoor

/- Package fault, walked: a row of faults of the call's own; slices.Clone; Without's closure. -/
namespace Go.Proofs.YtlijndkpgmbapaaGreatDoor
set_option maxRecDepth 100000
open Go.RowKit Go.Shelf Go.Proofs

/-- their cells, one behind the other -/
def flatF (l : List Fa) : List Value := l.flatMap encF
theorem flatF_len (l : List Fa) : (flatF l).length = l.length * 4 := by
  unfold flatF
  induction l with
  | nil => rfl
  | cons x r ih => rw [List.flatMap_cons, List.length_append, ih, encF_len, List.length_cons]; omega
theorem flatF_get : ∀ (l : List Fa) (i j : Nat) (hi : i < l.length), j < 4 → (flatF l)[i * 4 + j]? = (encF l[i])[j]?
  | [], i, j, hi, hj => absurd hi (Nat.not_lt_zero i)
  | x :: r, 0, j, hi, hj => by
    unfold flatF
    rw [List.flatMap_cons, List.getElem?_append_left (by rw [encF_len]; omega)]
    simp
  | x :: r, i + 1, j, hi, hj => by
    unfold flatF
    rw [List.flatMap_cons, List.getElem?_append_right (by rw [encF_len]; omega), encF_len, show (i + 1) * 4 + j - 4 = i * 4 + j by omega]
    exact flatF_get r i j (by simpa using hi) hj
theorem flatF_one (l : List Fa) : ∀ u ∈ flatF l, u.oneCell' = true := by
  intro u hu
  unfold flatF at hu
  rw [List.mem_flatMap] at hu
  obtain ⟨x, _, h⟩ := hu
  exact encF_one x u h
theorem flatF_app (l : List Fa) (x : Fa) : flatF (l ++ [x]) = flatF l ++ encF x := by
  unfold flatF; rw [List.flatMap_append]; simp

/-- block g holds these faults from its beginning on, and they may be written -/
def FRow (w : World) (g : Nat) (l : List Fa) : Prop := g < w.heap.size ∧ ∀ i (hi : i < l.length), w.rangeAt g (i * 4) (encF l[i]) ∧ w.there g (i * 4) 4
theorem FRow.keep {w w' : World} {g : Nat} {l : List Fa} (h : FRow w g l) (hg : w'.heap[g]? = w.heap[g]?) (hs : w.heap.size ≤ w'.heap.size) : FRow w' g l := by
  refine ⟨Nat.lt_of_lt_of_le h.1 hs, fun i hi => ?_⟩
  obtain ⟨h1, h2⟩ := h.2 i hi
  refine ⟨fun j v hj => ?_, fun j hj => ?_⟩
  · rw [World.cell?_of_block (w := w) hg]; exact h1 j v hj
  · rw [World.cell?_of_block (w := w) hg, World.frozen?_of_block (w := w) hg]; exact h2 j hj
theorem FRow.after {w w' : World} {g : Nat} {l : List Fa} (h : FRow w g l) (hb : Below w.heap.size w w') : FRow w' g l := h.keep (hb.block g h.1) hb.size
theorem size_setCellsF (b : Nat) : ∀ (vs : List Value) (o : Nat) (w : World), (w.setCells b o vs).heap.size = w.heap.size
  | [], _, _ => rfl
  | v :: r, o, w => by rw [World.setCells, size_setCellsF b r]; exact World.size_setCell _ _ _
theorem setCells_neF (b k : Nat) (hne : k ≠ b) : ∀ (vs : List Value) (o : Nat) (w : World), (w.setCells b o vs).heap[k]? = w.heap[k]?
  | [], _, _ => rfl
  | v :: r, o, w => by
    rw [World.setCells, setCells_neF b k hne r (o + 1) _]
    exact Below.heap_setCell _ _ _ _ hne
theorem FRow.set {w : World} {g : Nat} {l : List Fa} (h : FRow w g l) (i : Nat) (x : Fa) (hi : i < l.length) : FRow (w.setCells g (i * 4) (encF x)) g (l.set i x) := by
  refine ⟨by rw [size_setCellsF]; exact h.1, fun k hk => ?_⟩
  have hk' : k < l.length := by simpa using hk
  have ht : w.there g (i * 4) (encF x).length := (h.2 i hi).2
  refine ⟨?_, World.there_setCells (h.2 k hk').2 g (i * 4) (encF x)⟩
  by_cases e : i = k
  · subst e
    rw [List.getElem_set_self]
    exact World.rangeAt_setCells_same w g (i * 4) (encF x) ht
  · rw [List.getElem_set_ne e]
    refine World.rangeAt_setCells_apart (h.2 k hk').1 g (i * 4) (encF x) (Or.inr ?_)
    show k * 4 + 4 ≤ i * 4 ∨ i * 4 + 4 ≤ k * 4
    omega
theorem FRow.fs {w : World} {g : Nat} {l : List Fa} (h : FRow w g l) : FsAt w (some ⟨g, 0, none⟩) l :=
  fun _ => ⟨g, 0, rfl, h.1, fun i hi => by rw [Nat.zero_add]; exact (h.2 i hi).1⟩
theorem FRow.of_blk {w : World} {g : Nat} {cs : Array Value} {t : TypeId} {l : List Fa} (h : Blk w g cs t) (hc : cs.toList.take (l.length * 4) = flatF l) : FRow w g l := by
  have key : ∀ i j, (hi : i < l.length) → j < 4 → w.cell? ⟨g, i * 4 + j, none⟩ = (encF l[i])[j]? := by
    intro i j hi hj
    rw [h.cell, ← flatF_get l i j hi hj, ← hc, List.getElem?_take_of_lt (by omega)]
    simp
  refine ⟨h.lt, fun i hi => ⟨fun j v hv => ?_, fun j hj => ?_⟩⟩
  · have hj : j < 4 := (List.getElem?_eq_some_iff.1 hv).1
    rw [key i j hi hj]; exact hv
  · refine ⟨?_, h.free _⟩
    rw [key i j hi hj, List.getElem?_eq_getElem (by rw [encF_len]; exact hj)]; rfl

theorem infoFault : (Tryz.prog.info? 40).map (fun i => (i.zero, i.size, i.bytes)) = some (some (.agg (encF f0).toArray), 4, 32) := by kernel_rfl
theorem info_partsF {P : Program} {t : TypeId} {z : Option Value} {a b : Nat} (h : (P.info? t).map (fun i => (i.zero, i.size, i.bytes)) = some (z, a, b)) : ∃ i0, P.info? t = some i0 ∧ i0.zero = z ∧ i0.size = a ∧ i0.bytes = b := by
  cases hi : P.info? t with
  | none => rw [hi] at h; cases h
  | some i0 =>
    rw [hi] at h
    simp at h
    exact ⟨i0, rfl, h.1, h.2.1, h.2.2⟩

/-- a slice of the call's own: nil, or a row in a new block -/
def OwnF (w0 w : World) (v : Value) (l : List Fa) : Prop := (v = .slice none 0 0 ∧ l = []) ∨ ∃ g cap, v = .slice (some ⟨g, 0, none⟩) l.length cap ∧ w0.heap.size ≤ g ∧ l.length ≤ cap ∧ FRow w g l

set_option maxHeartbeats 1000000 in
theorem fa_clone (oa : Option Addr) (cap : Nat) (l : List Fa) (hl : l.length ≤ 1000000) (w : World) (ha : FsAt w oa l) :
    Calls Tryz.prog 119 #[.slice oa l.length cap] w fun e w' => ∃ v, e = .returned v ∧ OwnF w w' v l ∧ Below w.heap.size w w' := by
  cases oa with
  | none =>
    have h0 : l = [] := by
      apply Classical.byContradiction
      intro h
      obtain ⟨b, off, hc, _⟩ := ha h
      cases hc
    subst h0
    have h := AnyE.slices_Clone_nil Tryz.clone 0 cap w
    refine Calls.mono (P := Tryz.prog) (f := 119) h ?_
    rintro e w' ⟨rfl, rfl⟩
    exact ⟨_, rfl, Or.inl ⟨rfl, rfl⟩, Below.refl _ _⟩
  | some a =>
    obtain ⟨i0, hi, hz0, hz1, hz2⟩ := info_partsF infoFault
    have q : ∀ w, Sem.run Tryz.prog (binOp .eql 24 (.slice (some a) l.length cap) (.slice none 0 0)) w = .ok (.bool false) w := fun w => Lib.run_eql_slice_nil w _ 40 _ l.length cap 0 0 Tryz.underlying24
    have HCL : Hid (∀ j u, (flatF l)[j]? = some u → w.cell? (a.add j) = some u) := fun j u hj => by
      have hjn : j < l.length * 4 := by
        have := (List.getElem?_eq_some_iff.1 hj).1
        rwa [flatF_len] at this
      obtain ⟨b, off, hab, _, hc⟩ := ha (fun e => by rw [e] at hjn; simp at hjn)
      cases hab
      have h3 := hc (j / 4) (by omega) (j % 4) u (by rw [← flatF_get l (j / 4) (j % 4) (by omega) (by omega), show j / 4 * 4 + j % 4 = j by omega]; exact hj)
      rw [show off + j / 4 * 4 + j % 4 = off + j by omega] at h3
      rw [Addr.add_lit]; exact h3
    obtain ⟨n, hn⟩ : ∃ n, l.length = n := ⟨_, rfl⟩
    have HN := Lib.hid hn
    rw [hn] at q ⊢
    rw [hn] at hl
    clear ha hn
    go_enter Tryz.func119, Tryz.ntmps119
    go_wp2_with (at_builtin; refine wpList_append_own _ rfl _ _ 24 rfl w.heap.size 40 i0 (.agg (encF f0).toArray) 4 32 Tryz.underlying24 hi hz0 hz1 hz2 rfl (by decide) _ _ _ rfl (World.ownsRow_made w #[] 0 (Nat.le_refl _) (Nat.zero_le _) rfl) a n cap (flatF l) rfl ?c1 ?c2 ?c3 ?c4 ?c5 ?c6 ?_)
    case c1 => rw [flatF_len, HN.out]
    case c2 =>
      intro j u hj
      exact Lib.cell?_alloc_some _ (HCL.out j u hj)
    case c3 => exact flatF_one l
    case c4 => unfold maxLen; omega
    case c5 => omega
    case c6 => simp
    intro v' w1 hown hgrow hnil
    have hb : Below w.heap.size w w1 := ((Below.refl _ w).alloc (Nat.le_refl _) _).grown hgrow (by simp) (by intro k hk; simp [Value.ownBlock] at hk; omega)
    obtain ⟨_, hown⟩ := hown
    have HR : Hid (OwnF w w1 v' l) := by
      rcases hown with ⟨hv, hn0⟩ | ⟨g2, cap2, cur, rfl, hg2, hcur, hcp, _, _, ht⟩
      · exact Or.inl ⟨hv, List.eq_nil_of_length_eq_zero (by have := HN.out; omega)⟩
      · refine Or.inr ⟨g2, cap2, by rw [HN.out], hg2, by have := HN.out; omega, ?_⟩
        have hb4 : Blk w1 g2 cur 40 := hcur
        exact FRow.of_blk hb4 (by rw [HN.out]; simpa using ht)
    have HB := Lib.hid hb
    clear hgrow hb hown hnil hi hz0 hz1 hz2 q
    go_wp2_with fail
    go_ret
    exact ⟨v', rfl, HR.out, HB.out⟩

end Go.Proofs.YtlijndkpgmbapaaGreatDoor

/- Package fault, walked: slices.DeleteFunc over Without's closure; Without. -/
namespace Go.Proofs.YtlijndkpgmbapaaGreatDoor
set_option maxRecDepth 100000
open Go.RowKit Go.Shelf Go.Proofs

/-- all but block g is as it was -/
def OG (g : Nat) (w w' : World) : Prop := w.grownBy w' (some g)
theorem OG.refl (g : Nat) (w : World) : OG g w w := ⟨rfl, rfl, rfl, Nat.le_refl _, fun _ _ _ => rfl⟩
theorem OG.trans {g : Nat} {a b c : World} (h : OG g a b) (k : OG g b c) : OG g a c :=
  ⟨k.os.trans h.os, k.tape.trans h.tape, k.output.trans h.output, Nat.le_trans h.size k.size, fun t ht hn => (k.block t (Nat.lt_of_lt_of_le ht h.size) hn).trans (h.block t ht hn)⟩
theorem OG.of_below {g : Nat} {w w' : World} (h : Below w.heap.size w w') : OG g w w' := ⟨h.os, h.tape, h.output, h.size, fun t ht _ => h.block t ht⟩
theorem OG.cells {g : Nat} (w : World) (o : Nat) (vs : List Value) : OG g w (w.setCells g o vs) := by
  have hp : ∀ (vs : List Value) (o : Nat) (w : World), (w.setCells g o vs).os = w.os ∧ (w.setCells g o vs).tape = w.tape ∧ (w.setCells g o vs).output = w.output := by
    intro vs
    induction vs with
    | nil => intro o w; exact ⟨rfl, rfl, rfl⟩
    | cons v r ih => intro o w; rw [World.setCells]; exact ih (o + 1) _
  obtain ⟨h1, h2, h3⟩ := hp vs o w
  exact ⟨h1, h2, h3, by rw [size_setCellsF]; exact Nat.le_refl _, fun t _ hn => setCells_neF g t (fun e => hn (by rw [e])) vs o w⟩
theorem OG.below {g B : Nat} {w0 w w' : World} (h0 : Below B w0 w) (h : OG g w w') (hB : B ≤ w0.heap.size) (hg : B ≤ g) : Below B w0 w' :=
  ⟨h.os.trans h0.os, h.tape.trans h0.tape, h.output.trans h0.output, Nat.le_trans h0.size h.size, fun t ht => (h.block t (Nat.lt_of_lt_of_le (Nat.lt_of_lt_of_le ht hB) (Nat.le_trans (Nat.le_of_eq rfl) (by have := h0.size; omega))) (fun e => by cases e; omega)).trans (h0.block t ht)⟩

/-- those of other kinds -/
def others (k : Int) (l : List Fa) : List Fa := l.filter fun x => !(x.2.1 == k)
/-- what the row holds when j have been looked at and i of them kept -/
def Kept2 (k : Int) (l dl : List Fa) (i j : Nat) : Prop := dl.length = l.length ∧ dl.take i = others k (l.take j) ∧ dl.drop j = l.drop j
theorem Kept2.at {k : Int} {l dl : List Fa} {i j : Nat} (h : Kept2 k l dl i j) (hj : j < l.length) : dl[j]'(by rw [h.1]; exact hj) = l[j] := by
  have h2 := congrArg (fun t : List Fa => t[0]?) h.2.2
  simp only [List.getElem?_drop, Nat.add_zero] at h2
  rw [List.getElem?_eq_getElem hj, List.getElem?_eq_getElem (by rw [h.1]; exact hj)] at h2
  exact Option.some.inj h2
theorem drop_more {l l' : List Fa} {j : Nat} (h : l.drop j = l'.drop j) : l.drop (j + 1) = l'.drop (j + 1) := by
  rw [← List.drop_drop, ← List.drop_drop, h]
theorem Kept2.skip {k : Int} {l dl : List Fa} {i j : Nat} (h : Kept2 k l dl i j) (hj : j < l.length) (hx : (l[j].2.1 == k) = true) : Kept2 k l dl i (j + 1) := by
  refine ⟨h.1, ?_, drop_more h.2.2⟩
  rw [h.2.1, List.take_add_one, List.getElem?_eq_getElem hj]
  unfold others
  rw [Option.toList_some, List.filter_append, List.filter_cons_of_neg (by simp [hx])]
  simp
theorem Kept2.keep {k : Int} {l dl : List Fa} {i j : Nat} (h : Kept2 k l dl i j) (hij : i < j) (hj : j < l.length) (hx : (l[j].2.1 == k) = false) : Kept2 k l (dl.set i l[j]) (i + 1) (j + 1) := by
  refine ⟨by rw [List.length_set]; exact h.1, ?_, ?_⟩
  · rw [List.take_add_one, List.getElem?_set_self (by rw [h.1]; omega), List.take_set_of_le (Nat.le_refl i), h.2.1, List.take_add_one, List.getElem?_eq_getElem hj]
    unfold others
    rw [Option.toList_some, List.filter_append, List.filter_cons_of_pos (by simp [hx])]
    simp
  · rw [List.drop_set_of_lt (by omega)]
    exact drop_more h.2.2
theorem Kept2.start {k : Int} {l : List Fa} {j : Nat} (hj : j < l.length) (hx : (l[j].2.1 == k) = true) (hm : ∀ i (hi : i < l.length), i < j → (l[i].2.1 == k) = false) : Kept2 k l l j (j + 1) := by
  have h0 : Kept2 k l l j j := ⟨rfl, by
    unfold others
    rw [List.filter_eq_self.2]
    intro x hx
    obtain ⟨t, ht, ht2, rfl⟩ := mem_take hx
    simp [hm t ht ht2], rfl⟩
  exact h0.skip hj hx

end Go.Proofs.YtlijndkpgmbapaaGreatDoor

/- Package fault, walked: Ahead. -/
namespace Go.Proofs.YtlijndkpgmbapaaGreatDoor
set_option maxRecDepth 100000
open Go.RowKit Go.Shelf Go.Sort Go.Proofs

theorem holds_of_row {w : World} {g : Nat} {l : List Fa} (h : FRow w g l) : HoldsK encF 4 w g 0 l.toArray := by
  intro t ht
  have ht2 : t < l.toArray.size * 4 := by simpa using ht
  have hi : t / 4 < l.length := by simp at ht2; omega
  rw [get_flatK _ _ _ _ ht2, Nat.zero_add]
  obtain ⟨h1, h2⟩ := h.2 (t / 4) hi
  have e : t / 4 * 4 + t % 4 = t := by omega
  have hl : l.toArray[t / 4]! = l[t / 4] := by rw [getElem!_pos l.toArray (t / 4) (by simpa using hi)]; simp
  have h4 : t % 4 < (encF l[t / 4]).length := by rw [encF_len]; omega
  refine ⟨?_, ?_⟩
  · have h5 := h1 (t % 4) _ (List.getElem?_eq_getElem h4)
    rw [e] at h5
    rw [h5, hl, getElem!_pos (encF l[t / 4]) (t % 4) h4]
    rfl
  · have h5 := (h2 (t % 4) (by omega)).2
    rwa [e] at h5
theorem row_of_holds {w : World} {g : Nat} {d : Array Fa} (hg : g < w.heap.size) (h : HoldsK encF 4 w g 0 d) : FRow w g d.toList := by
  refine ⟨hg, fun i hi => ⟨fun j v hj => ?_, fun j hj => ?_⟩⟩
  · have hj4 : j < (encF d.toList[i]).length := (List.getElem?_eq_some_iff.1 hj).1
    have hid : i < d.size := by simpa using hi
    have h1 := (HoldsK.cell h (i := i) (c := j) hid (by rw [encF_len] at hj4; exact hj4)).1
    rw [Nat.zero_add] at h1
    rw [h1, getElem!_pos d i hid]
    rw [List.getElem?_eq_getElem hj4] at hj
    have e : (encF d[i])[j]! = (encF d.toList[i])[j] := by
      rw [getElem!_pos (encF d[i]) j (by rw [encF_len]; rw [encF_len] at hj4; exact hj4)]
      simp
    rw [e]; exact hj
  · have hid : i < d.size := by simpa using hi
    have h1 := HoldsK.cell h (i := i) (c := j) hid hj
    rw [Nat.zero_add] at h1
    exact ⟨by rw [h1.1]; rfl, h1.2⟩
theorem og_sorted (w : World) (g off n : Nat) (d : Array Fa) (os : Array Obj) : OG g w (sortWorldK encF 4 w g off n d os) := by
  unfold sortWorldK putRowK putRow mapBlock
  refine ⟨rfl, rfl, rfl, ?_, fun t ht hn => ?_⟩
  · rw [size_grow]; simp [Sort.ahead]
  · rw [heap_grow_old _ _ (by simpa [Sort.ahead] using ht)]
    simp only [Array.getElem?_modify]
    rw [if_neg (fun e => hn (by rw [e]))]
    rfl

theorem fa_sort_nil (g : Nat) (w : World) : Calls Tryz.prog 120 #[.slice none 0 0, .func (.func g) #[] #[]] w fun e w' => e = .returned (.tuple #[]) ∧ Below w.heap.size w w' := by
  have hi : ∀ w, Calls Tryz.prog 168 #[.slice none 0 0, .int .i64 0, .int .i64 0, .func (.func g) #[] #[]] w fun e w' => e = .returned (.tuple #[]) ∧ w = w' := fun w => by
    go_enter Tryz.func168, Tryz.ntmps168
    go_wp2
    refine wp_loop_rounds 1 ?_
    rw [rounds_succ]
    go_wp2
    go_end0
    exact ⟨rfl, rfl⟩
  have hs : ∀ w, Calls Tryz.prog 152 #[.slice none 0 0, .int .i64 0, .func (.func g) #[] #[]] w fun e w' => e = .returned (.tuple #[]) ∧ w = w' := fun w => by
    go_enter Tryz.func152, Tryz.ntmps152
    go_wp2
    refine wp_loop_rounds 1 ?_
    rw [rounds_succ]
    go_wp2_with fail
    refine (hi w).mono ?_
    rintro r w1 ⟨rfl, rfl⟩
    go_wp2_with fail
    refine wp_loop_rounds 1 ?_
    rw [rounds_succ]
    go_wp2
    go_end0
    exact ⟨rfl, rfl⟩
  clear hi
  go_enter Tryz.func120, Tryz.ntmps120
  go_wp2_with fail
  refine (hs w).mono ?_
  rintro r w1 ⟨rfl, rfl⟩
  clear hs
  go_wp2_with fail
  go_end0
  exact ⟨rfl, Below.refl _ _⟩

/-- block B holds a slice of these faults, whose row, if there is one, is block g -/
def AhdAt (w : World) (B g : Nat) (L : List Fa) : Prop := ∃ oa cap, Blk w B #[.slice oa L.length cap] 24 ∧ (L ≠ [] → oa = some ⟨g, 0, none⟩ ∧ FRow w g L)

set_option maxHeartbeats 1000000 in
theorem fa_ahead (oa : Option Addr) (cap : Nat) (l : List Fa) (hl : l.length ≤ 1000000) (w : World) (ha : FsAt w oa l) :
    Calls Tryz.prog 76 #[.slice oa l.length cap] w fun e w' => ∃ B g L, e = .returned (.func (.func 123) #[] #[.pointer (some ⟨B, 0, none⟩)]) ∧ AhdAt w' B g L ∧ Srt L ∧ StbF l L ∧ L.length = l.length ∧ w.heap.size ≤ B ∧ Below w.heap.size w w' := by
  have hcl := fa_clone oa cap l hl w ha
  have HCL := Lib.hid hcl
  have eg : ∀ args w, (callFunc 121 args).run Tryz.prog w = .ok (.enter 121 args) w := enters_of Tryz.func121 (by kernel_rfl) rfl
  obtain ⟨n, hn⟩ : ∃ n, l.length = n := ⟨_, rfl⟩
  have HN := Lib.hid hn
  have HEG := Lib.hid eg
  rw [hn] at HCL hl ⊢
  clear hcl ha hn eg
  go_enter Tryz.func76, Tryz.ntmps76
  go_wp2_with fail
  refine HCL.out.mono ?_
  rintro r w1 ⟨v, rfl, hown, hb1⟩
  have HB1 := Lib.hid hb1
  clear hb1 HCL
  rcases hown with ⟨rfl, hl0⟩ | ⟨g, cap2, rfl, hg, hcap, hrow⟩
  · subst hl0
    have hk := Blk.new w1 #[.slice none 0 0] 24
    have K2 := Lib.hid hk
    have HB2 : Hid (Below w.heap.size w (w1.alloc (.cells #[.slice none 0 0] 24))) := HB1.out.alloc HB1.out.size _
    have HS := Lib.hid (fa_sort_nil 121 (w1.alloc (.cells #[.slice none 0 0] 24)))
    clear hk
    go_wp2_with fail
    refine HS.out.mono ?_
    rintro r w3 ⟨rfl, hb3⟩
    have K3 := Lib.hid (K2.out.after hb3)
    have HB3 := Lib.hid (HB2.out.trans (hb3.mono HB2.out.size))
    clear hb3 K2 HB2 HS
    go_wp2_with fail
    go_ret
    exact ⟨w1.heap.size, 0, [], rfl, ⟨none, 0, K3.out, fun h => absurd rfl h⟩, List.Pairwise.nil, StbF.refl _, HN.out, HB1.out.size, HB3.out⟩
  · have hcap' : l.length ≤ cap2 := hcap
    have hk := Blk.new w1 #[.slice (some ⟨g, 0, none⟩) l.length cap2] 24
    have hb2 : Below w1.heap.size w1 (w1.alloc (.cells #[.slice (some ⟨g, 0, none⟩) l.length cap2] 24)) := (Below.refl _ w1).alloc (Nat.le_refl _) _
    have hrow2 := hrow.after hb2
    have hR := row4 (holds_of_row hrow2) hrow2.1
    have hsrt := fa_sort 121 HEG.out cmpF_ahead g 0 cap2 l.toArray (w1.alloc (.cells #[.slice (some ⟨g, 0, none⟩) l.length cap2] 24)) hR (by have := HN.out; simp; omega)
    rw [show l.toArray.size = l.length by simp] at hsrt
    have HRK := Lib.hid hR
    have K2 := Lib.hid hk
    have HB2 : Hid (Below w.heap.size w (w1.alloc (.cells #[.slice (some ⟨g, 0, none⟩) l.length cap2] 24))) := HB1.out.alloc HB1.out.size _
    have HS := Lib.hid hsrt
    have HG : Hid (w.heap.size ≤ g ∧ g < w1.heap.size) := ⟨hg, hrow.1⟩
    clear hk hb2 hrow2 hR hsrt hrow hcap
    go_wp2_with fail
    refine HS.out.mono ?_
    rintro r w3 ⟨rfl, d', hz, hsd, hst, hS⟩
    have hL : d'.toList.length = l.length := by simpa using hz
    have hog : OG g (w1.alloc (.cells #[.slice (some ⟨g, 0, none⟩) l.length cap2] 24)) w3 := by
      obtain ⟨m, os, rfl⟩ := hS
      exact og_sorted _ g 0 m d' os
    have hrow3 : FRow w3 g d'.toList := row_of_holds (hS.lt HRK.out.hblk) (hS.holds HRK.out.hblk HRK.out.hH (by simpa using hz))
    have hK3 : Blk w3 w1.heap.size #[.slice (some ⟨g, 0, none⟩) d'.toList.length cap2] 24 := by
      rw [hL]
      unfold Blk
      rw [hog.block w1.heap.size (by simp) (fun e => by have := HG.out.2; have e2 := Option.some.inj e; omega)]
      exact K2.out
    have HROW := Lib.hid hrow3
    have HK3 := Lib.hid hK3
    have HB3 : Hid (Below w.heap.size w w3) := OG.below HB2.out hog (Nat.le_refl _) HG.out.1
    have HSD := Lib.hid hsd
    have HST : Hid (StbF l d'.toList) := by show StbF l d'.toList; have h : StbF l.toArray.toList d'.toList := hst; simpa using h
    have HLL : Hid (d'.toList.length = n) := hL.trans HN.out
    clear hz hsd hst hS hL hog hrow3 hK3 HS K2 HB2 HRK
    go_wp2_with fail
    go_ret
    exact ⟨w1.heap.size, g, d'.toList, rfl, ⟨_, _, HK3.out, fun _ => ⟨rfl, HROW.out⟩⟩, HSD.out, HST.out, HLL.out, HB1.out.size, HB3.out⟩

end Go.Proofs.YtlijndkpgmbapaaGreatDoor

/- The iterator of Ahead, walked: the faults of a row, one by one. -/
namespace Go.Proofs.YtlijndkpgmbapaaGreatDoor
set_option maxRecDepth 100000
open Go.RowKit Go.Shelf Go.Proofs
attribute [local go_sem] Oper.semAt_some

theorem wpListIn_store_rowF {F : Fence} {n : Nat} {P : Program} {ops : Array Oper} {rest : List Oper} {o : Oper} {a : Act} {w : World} {Q : Exit → Act → World → Prop} (hgd : o.guard = none) (ty : TypeId) (x y : Operand) (ho : o.op = .store ty x y)
    (g : Nat) (cells : Array Value) (hx : a.eval x = .pointer (some ⟨g, 0, none⟩)) (hy : a.eval y = .agg cells)
    (t : TypeId) (old : Array Value) (hg : w.heap[g]? = some (.cells old t (0, 0))) (hi : (P.info? ty).map (·.size) = some cells.size)
    (hold : old.size = cells.size) (h1 : cells.all (·.oneCell') = true)
    (h : wpListIn F n P ops Q rest (a.put o.dst undef) (w.setRow g cells)) : wpListIn F n P ops Q (o :: rest) a w := by
  refine wpListIn_plain hgd fun K hK => ?_
  unfold Oper.wpIn
  refine ⟨?_, ?_⟩
  · simp [Oper.about, ho]
  · rw [Oper.semAt_plain F _ _ (by rw [ho]; intro c hc'; cases hc')]
    simp only [execOp, ho, hx, hy, Instr.storeAt, Instr.sureAddr, Sem.run_bind, Sem.run_pure, Result.andThen_ok, run_storeVar_row w g t ty old cells hg hi hold h1]
    exact hK _ _ h
theorem wpListIn_load_rowF {F : Fence} {n : Nat} {P : Program} {ops : Array Oper} {rest : List Oper} {o : Oper} {a : Act} {w : World} {Q : Exit → Act → World → Prop} (hgd : o.guard = none) (ty : TypeId) (x : Operand) (ho : o.op = .load ty x)
    (g : Nat) (hx : a.eval x = .pointer (some ⟨g, 0, none⟩)) (t : TypeId) (cs : Array Value) (fr : Nat × Nat) (d : TypeDesc) (hg : w.heap[g]? = some (.cells cs t fr))
    (hu : P.underlying ty = some d) (hd : (match d with | .struct _ | .array _ _ => true | _ => false) = true) (hi : (P.info? ty).map (·.size) = some cs.size)
    (h : wpListIn F n P ops Q rest (a.put o.dst (.agg cs)) w) : wpListIn F n P ops Q (o :: rest) a w := by
  refine wpListIn_plain hgd fun K hK => ?_
  unfold Oper.wpIn
  refine ⟨?_, ?_⟩
  · simp [Oper.about, ho]
  · rw [Oper.semAt_plain F _ _ (by rw [ho]; intro c hc'; cases hc')]
    simp only [execOp, ho, hx, Instr.loadAt, Instr.sureAddr, Sem.run_bind, Sem.run_pure, Result.andThen_ok, run_loadVar_row w g t ty cs fr d hg hu hd hi]
    exact hK _ _ h


theorem grown_of_belowF {W W' : World} (h : Below W.heap.size W W') : W.grownBy W' none := ⟨h.os, h.tape, h.output, h.size, fun k hk _ => h.block k hk⟩

set_option maxHeartbeats 4000000 in
theorem ahd_in (m : Nat) (hm : 1 ≤ m) (l B g : Nat) (L : List Fa) (hLn : L.length ≤ 1000000) (J Jx : List Fa → World → Prop) (W : World) (hA : AbidesFrom W.heap.size J)
    (hY : ∀ pre x W, J pre W → pre.length < L.length → YieldAt Fence.wide (m - 1) Tryz.prog l #[.agg (encF x).toArray] W fun e W' =>
      (e = .returned (.bool true) ∧ J (pre ++ [x]) W' ∧ KeepB [g] W W') ∨ (e = .returned (.bool false) ∧ Jx (pre ++ [x]) W'))
    (hat : AhdAt W B g L) (h0 : J [] W) :
    CallsIn Fence.wide m Tryz.prog 123 #[.func (.yield l) #[] #[], .pointer (some ⟨B, 0, none⟩)] W fun e W' => (∃ v, e = .returned v) ∧
      ((∃ ys, ys = L ∧ J ys W') ∨ (∃ pre, (∃ k, k ≤ L.length ∧ pre = L.take k) ∧ Jx pre W')) := by
  obtain ⟨oa, cap, hk, hrow⟩ := hat
  have hcb : W.cell? ⟨B, 0, none⟩ = some (.slice oa L.length cap) := hk.cell 0
  have HY := Lib.hid hY
  have HAB := Lib.hid hA
  have HROW := Lib.hid hrow
  obtain ⟨n, hn⟩ : ∃ n, L.length = n := ⟨_, rfl⟩
  have HN := Lib.hid hn
  rw [hn] at hcb hLn
  have HJ0 : Hid (J (L.take 0) W) := h0
  clear hY hA hrow hn hk h0
  refine callsIn_of_wp Tryz.func123 rfl trivial ?_ rfl
  simp only [Tryz.ntmps123, List.size_toArray, List.length_cons, List.length_nil, Nat.reduceAdd, Nat.reduceSub, Array.replicate_succ, Array.replicate_zero, List.push_toArray, List.append_toArray, List.nil_append, List.cons_append]
  gi_wp2
  gi_loopw [7] (fun i wr => ∃ k : Nat, k ≤ n ∧ i = .int .i64 k ∧ Hid (J (L.take k) wr) ∧ Hid (KeepB [g] W wr) ) (fun i _ => n - (intOf i).toNat)
  case atStart => exact ⟨0, Nat.zero_le _, rfl, HJ0, KeepB.refl _ _⟩
  case round =>
    clear HJ0
    obtain ⟨k, hk, rfl, HJ, HKB⟩ := hrel
    by_cases hlt : k < n
    · have hlti : (k : Int) < (n : Int) := by omega
      have hkl : k < L.length := by have := HN.out; omega
      obtain ⟨rfl, hfr⟩ := HROW.out (fun e => by rw [e] at hkl; simp at hkl)
      have hg : g < wr.heap.size := by
        have h := HKB.out g (by simp)
        rw [Array.getElem?_eq_getElem hfr.1] at h
        exact (Array.getElem?_eq_some_iff.1 h).1
      have hcells : ∀ j v, (encF L[k])[j]? = some v → wr.cell? ⟨g, k * 4 + j, none⟩ = some v := fun j v hj => (HKB.out.cell (by simp)).trans ((hfr.2 k hkl).1 j v hj)
      have htk : L.take (k + 1) = L.take k ++ [L[k]] := by rw [List.take_add_one, List.getElem?_eq_getElem hkl]; rfl
      have hpl : (L.take k).length < L.length := by rw [List.length_take]; omega
      generalize L[k] = x at hcells htk
      obtain ⟨x1, x2, x3, x4⟩ := x
      have c0 : wr.cell? ⟨g, k * 4, none⟩ = some (.int .i64 x1) := hcells 0 _ rfl
      have c1 : wr.cell? ⟨g, k * 4 + 1, none⟩ = some (.int .i64 x2) := hcells 1 _ rfl
      have c2 : wr.cell? ⟨g, k * 4 + 2, none⟩ = some (.int .i64 x3) := hcells 2 _ rfl
      have c3 : wr.cell? ⟨g, k * 4 + 3, none⟩ = some (.int .i64 x4) := hcells 3 _ rfl
      have hK0 : Blk (wr.alloc (.cells (encF f0).toArray 40)) wr.heap.size (encF f0).toArray 40 := Blk.new wr _ _
      obtain ⟨w2, hw2⟩ : ∃ w2, (wr.alloc (.cells (encF f0).toArray 40)).setRow wr.heap.size (encF (x1, x2, x3, x4)).toArray = w2 := ⟨_, rfl⟩
      have hK2 : Blk w2 wr.heap.size (encF (x1, x2, x3, x4)).toArray 40 := by rw [← hw2]; exact hK0.put _
      have hb2 : Below wr.heap.size wr w2 := by rw [← hw2]; exact below_put (Nat.le_refl _) _ ((Below.refl _ wr).alloc (Nat.le_refl _) _)
      have HJ2 : Hid (J (L.take k) w2) := HAB.out _ wr w2 none HJ.out (grown_of_belowF hb2) (fun r e => by cases e)
      have HKB2 : Hid (KeepB [g] W w2) := HKB.out.trans (KeepB.of_below hb2 (by simpa using hg))
      have K0 := Lib.hid hK0
      have K2 := Lib.hid hK2
      have HW := Lib.hid hw2
      have HTK := Lib.hid htk
      clear hcells htk hK0 hK2 hw2 hb2 HJ HKB hfr
      obtain ⟨fn, tmps, assign, body, hy, hR⟩ := HY.out (L.take k) (x1, x2, x3, x4) w2 HJ2.out hpl
      have HR := Lib.hid hR
      clear hpl hkl hR
      gi_wp2_with (first
        | (refine wpListIn_store_rowF rfl 40 (.tmp 4) (.tmp 10) rfl wr.heap.size (encF (x1, x2, x3, x4)).toArray rfl rfl 40 (encF f0).toArray K0.out size_faF rfl (encF_all _) ?_; change wpListIn _ _ _ _ _ _ _ ((wr.alloc (.cells (encF f0).toArray 40)).setRow wr.heap.size (encF (x1, x2, x3, x4)).toArray); rw [HW.out])
        | (refine wpListIn_load_rowF rfl 40 (.tmp 4) rfl wr.heap.size rfl 40 (encF (x1, x2, x3, x4)).toArray (0, 0) _ K2.out Tryz.underlying40 rfl size_faF ?_))
      refine HR.out.mono ?_
      rintro e W3 (⟨rfl, hJ3, hk3⟩ | ⟨rfl, hJx3⟩)
      · have HJ3 : Hid (J (L.take (k + 1)) W3) := by show J _ _; rw [HTK.out]; exact hJ3
        have HKB3 := Lib.hid (HKB2.out.trans hk3)
        clear hJ3 hk3 hy HR
        gi_wp2
        go_roundw
        case rel => exact ⟨k + 1, by omega, by go_num, HJ3, HKB3⟩
        case measure => simp [intOf]; omega
      · have HJX : Hid (Jx (L.take (k + 1)) W3) := by show Jx _ _; rw [HTK.out]; exact hJx3
        clear hJx3 hy HR
        gi_wp2
        refine bodyPost_ret (results_none rfl _ _ _) rfl ?_
        exact ⟨⟨_, rfl⟩, .inr ⟨_, ⟨k + 1, by have := HN.out; omega, rfl⟩, HJX.out⟩⟩
    · obtain rfl : k = n := by omega
      have hlti : ¬ (k : Int) < (k : Int) := by omega
      gi_wp2
      go_end0
      have h := HJ.out
      rw [show k = L.length from HN.out.symm, List.take_length] at h
      first | exact ⟨⟨_, rfl⟩, .inl h⟩ | exact ⟨⟨_, rfl⟩, .inl ⟨L, rfl, h⟩⟩

theorem ahd_stops (m : Nat) (hm : 1 ≤ m) (B g : Nat) (L : List Fa) (hLn : L.length ≤ 1000000) (w : World) (hat : AhdAt w B g L) :
    SeqStopsK Fence.wide m Tryz.prog 123 #[.pointer (some ⟨B, 0, none⟩)] (fun x : Fa => #[.agg (encF x).toArray]) (fun A B => Below w.heap.size A B)
      (fun ys => ys = L) (fun pre => ∃ k, k ≤ L.length ∧ pre = L.take k) L.length w := fun l J Jx W hW hA _ hY h0 => by
  have hat2 : AhdAt W B g L := by
    obtain ⟨oa, cap, hk, hrow⟩ := hat
    exact ⟨oa, cap, hk.below hW hk.lt, fun h => ⟨(hrow h).1, (hrow h).2.keep (hW.block g (hrow h).2.1) hW.size⟩⟩
  by_cases hL : L = []
  · subst hL
    exact ahd_in m hm l B g [] hLn J Jx W hA (fun pre x W hJ hl => absurd hl (Nat.not_lt_zero _)) hat2 h0
  · obtain ⟨oa, cap, hk, hrow⟩ := hat
    refine ahd_in m hm l B g L hLn J Jx W hA (fun pre x W hJ hl => ?_) hat2 h0
    obtain ⟨fn, tmps, assign, body, hy, hR⟩ := hY pre x W hJ hl
    refine ⟨fn, tmps, assign, body, hy, hR.mono ?_⟩
    rintro e W' (⟨h1, h2, h3⟩ | h)
    · exact .inl ⟨h1, h2, KeepB.of_below h3 (by simpa using (hrow hL).2.1)⟩
    · exact .inr h
theorem ahd_enters : ∀ args W, (callFunc 123 args).run Tryz.prog W = .ok (.enter 123 args) W := enters_of Tryz.func123 (by kernel_rfl) rfl

/-- what Ahead gives: an iterator over the faults, sorted -/
theorem fa_ahead_it (oa : Option Addr) (cap : Nat) (l : List Fa) (hl : l.length ≤ 1000000) (w : World) (ha : FsAt w oa l) :
    Calls Tryz.prog 76 #[.slice oa l.length cap] w fun e w' => ∃ (gf : Nat) (lb : Array Value) (L : List Fa), e = .returned (.func (.func gf) #[] lb) ∧ Below w.heap.size w w' ∧
      (∀ args W, (callFunc gf args).run Tryz.prog W = .ok (.enter gf args) W) ∧ Srt L ∧ StbF l L ∧ L.length = l.length ∧
      SeqStopsK Fence.wide 8 Tryz.prog gf lb (fun x : Fa => #[.agg (encF x).toArray]) (fun A B => Below w'.heap.size A B) (fun xs => xs = L) (fun pre => ∃ j, j ≤ L.length ∧ pre = L.take j) L.length w' := by
  refine (fa_ahead oa cap l hl w ha).mono ?_
  rintro e w' ⟨B, g, L, rfl, hat, hs, hst, hlen, _, hb⟩
  exact ⟨_, _, L, rfl, hb, ahd_enters, hs, hst, hlen, ahd_stops 8 (by decide) B g L (by omega) w' hat⟩

end Go.Proofs.YtlijndkpgmbapaaGreatDoor

/- Package chip, walked: how many faults come ahead of a number. -/
namespace Go.Proofs.YtlijndkpgmbapaaGreatDoor
set_option maxRecDepth 100000
open Go.RowKit Go.Shelf Go.Sort Go.Proofs

/-- a struct out of a slice's midst, at an operation that is guarded -/
theorem wpList_load_mid_if {P : Program} {ops : Array Oper} {rest : List Oper} {op : Oper} {a : Act} {w : World} {Q : Exit → Act → World → Prop} (hw : Region.wanted op (yielded ops a.tmps) = true) (ty : TypeId) (x : Operand) (ho : op.op = .load ty x)
    (b o : Nat) (hx : a.eval x = .pointer (some ⟨b, o, none⟩)) (cs : List Value) (d : TypeDesc) (hc : w.rangeAt b o cs)
    (hu : P.underlying ty = some d) (hd : d.isRow = true) (hi : (P.info? ty).map (·.size) = some cs.length)
    (h : wpList P ops Q rest (a.put op.dst (.agg cs.toArray)) w) : wpList P ops Q (op :: rest) a w := by
  unfold wpList
  rw [if_pos hw]
  exact Or.inl (wp_load_mid ty x ho b o hx cs d hc hu hd hi h)
theorem ch_before1 (x : Fa) (t : Int) (W : World) : Calls Tryz.prog 155 #[.agg (encF x).toArray, .int .i64 t] W fun e w' => e = .returned (.int .i64 (Lib.compareInt x.1 t)) ∧ Below W.heap.size W w' := by
  obtain ⟨x1, x2, x3, x4⟩ := x
  have hcon : ∀ W', Calls Tryz.prog 122 #[.int .i64 x1, .int .i64 t] W' fun e w' => e = .returned (.int .i64 (Lib.compareInt x1 t)) ∧ w' = W' := fun W' => AnyG.cmp_Compare_int Tryz.cmpInt x1 t W'
  show Calls Tryz.prog 155 #[.agg #[.int .i64 x1, .int .i64 x2, .int .i64 x3, .int .i64 x4], .int .i64 t] W fun e w' => e = .returned (.int .i64 (Lib.compareInt x1 t)) ∧ Below W.heap.size W w'
  have HB : Hid (∀ X, Below W.heap.size W (W.alloc X)) := fun X => (Below.refl _ _).alloc (Nat.le_refl _) _
  generalize Lib.compareInt x1 t = r at hcon ⊢
  go_enter Tryz.func155, Tryz.ntmps155
  go_wp2_with (go_at_call 122; refine (hcon _).mono ?_; rintro e w' ⟨rfl, rfl⟩)
  go_ret
  exact ⟨rfl, HB.out _⟩
theorem cmp_neg (a b : Int) : (Lib.compareInt a b < 0) ↔ a < b := by
  unfold Lib.compareInt
  by_cases h1 : a < b
  · simp [h1]
  · by_cases h2 : b < a <;> simp [h1, h2]
/-- where the search stands -/
def SrI (R : List Fa) (t : Int) (lo hi : Nat) : Prop := (∀ i (hi : i < R.length), i < lo → R[i].1 < t) ∧ (∀ i (h : i < R.length), hi ≤ i → t ≤ R[i].1)
theorem SrI.done {R : List Fa} {t : Int} {lo : Nat} (h : SrI R t lo lo) (hl : lo ≤ R.length) (hs : Srt R) : belowN R t = lo := by
  have hb := belowN_take hs t
  have hle := belowN_le R t
  rcases Nat.lt_trichotomy (belowN R t) lo with h1 | h1 | h1
  · have hx := hb.2 (R[belowN R t]'(by omega)) (by rw [List.mem_iff_getElem]; exact ⟨0, by rw [List.length_drop]; omega, by rw [List.getElem_drop]; rfl⟩)
    have := h.1 (belowN R t) (by omega) h1
    omega
  · exact h1
  · have hx := hb.1 (R[lo]'(by omega)) (by rw [List.mem_iff_getElem]; exact ⟨lo, by rw [List.length_take]; omega, by rw [List.getElem_take]⟩)
    have := h.2 lo (by omega) (Nat.le_refl _)
    omega
theorem SrI.left {R : List Fa} {t : Int} {lo hi m : Nat} (h : SrI R t lo hi) (hs : Srt R) (hm : m < R.length) (hx : R[m].1 < t) : SrI R t (m + 1) hi :=
  ⟨fun i hi' hlt => by
    rcases Nat.lt_or_ge i m with h1 | h1
    · have := List.pairwise_iff_getElem.1 hs i m hi' hm h1; omega
    · obtain rfl : i = m := by omega
      exact hx, h.2⟩
theorem SrI.right {R : List Fa} {t : Int} {lo hi m : Nat} (h : SrI R t lo hi) (hs : Srt R) (hm : m < R.length) (hx : ¬ R[m].1 < t) : SrI R t lo m :=
  ⟨h.1, fun i hi' hle => by
    rcases Nat.lt_or_ge m i with h1 | h1
    · have := List.pairwise_iff_getElem.1 hs m i hm hi' h1; omega
    · obtain rfl : i = m := by omega
      omega⟩

/-- what a search gives: how many lie below, and whether one is there -/
def SearchT (R : List Fa) (t : Int) (w : World) (e : Ending) (w' : World) : Prop := (∃ b, e = .returned (.tuple #[.int .i64 (belowN R t : Nat), .bool b])) ∧ Below w.heap.size w w'
theorem SearchT.mk' {R : List Fa} {t : Int} {n : Nat} {w w' : World} {b : Bool} (h : belowN R t = n) (hb : Below w.heap.size w w') : SearchT R t w (.returned (.tuple #[.int .i64 (n : Nat), .bool b])) w' := ⟨⟨b, by rw [h]⟩, hb⟩
set_option maxHeartbeats 4000000 in
theorem ch_search (oa : Option Addr) (cap : Nat) (R : List Fa) (hl : R.length ≤ 1000000) (hs : Srt R) (t : Int) (w : World) (ha : FsAt w oa R) :
    Calls Tryz.prog 154 #[.slice oa R.length cap, .int .i64 t, .func (.func 155) #[] #[]] w (SearchT R t w) := by
  have eg : ∀ args w, (callFunc 155 args).run Tryz.prog w = .ok (.enter 155 args) w := enters_of Tryz.func155 (by kernel_rfl) rfl
  have HA := Lib.hid ha
  have HS := Lib.hid hs
  obtain ⟨n, hn⟩ : ∃ n, R.length = n := ⟨_, rfl⟩
  have HN := Lib.hid hn
  rw [hn] at hl ⊢
  clear ha hs hn
  go_enter Tryz.func154, Tryz.ntmps154
  go_wp2
  go_loopg [9, 10] n (fun kx s9 s10 wr => ∃ lo hi : Nat, s9 = .int .i64 lo ∧ s10 = .int .i64 hi ∧ lo ≤ hi ∧ hi ≤ n ∧ hi - lo ≤ kx ∧ Hid (Below w.heap.size w wr) ∧ Hid (SrI R t lo hi))
  case atStart => exact ⟨0, n, rfl, rfl, Nat.zero_le _, Nat.le_refl _, by omega, Below.refl _ _, ⟨fun i _ h => absurd h (Nat.not_lt_zero i), fun i h1 h2 => by have := HN.out; omega⟩⟩
  case round =>
    obtain ⟨lo, hi, rfl, rfl, hlh, hin, hg, HB, HI⟩ := hrel
    by_cases hlt : lo < hi
    · have hml : (lo + hi) / 2 < R.length := by have := HN.out; omega
      obtain ⟨b, off, rfl, hb, hc⟩ := HA.out (fun e => by rw [e] at hml; simp at hml)
      obtain ⟨y, hy, hr⟩ : ∃ y, R[(lo + hi) / 2] = y ∧ wr.rangeAt b (off + (lo + hi) / 2 * 4) (encF y) := ⟨_, rfl, fun j v hj => by
        rw [World.cell?_of_block (w := w) (HB.out.block b hb)]; exact hc _ hml j v hj⟩
      have HR := Lib.hid hr
      have hcb := ch_before1 y t
      obtain ⟨q, hq⟩ : ∃ q, Lib.compareInt y.1 t = q := ⟨_, rfl⟩
      rw [hq] at hcb
      have hqy : q < 0 ↔ y.1 < t := by rw [← hq]; exact cmp_neg _ _
      have HLEFT : Hid (q < 0 → SrI R t ((lo + hi) / 2 + 1) hi) := fun h => HI.out.left HS.out hml (by rw [hy]; exact hqy.1 h)
      have HRIGHT : Hid (¬ q < 0 → SrI R t lo ((lo + hi) / 2)) := fun h => HI.out.right HS.out hml (by rw [hy]; exact fun h2 => h (hqy.2 h2))
      have HCB := Lib.hid hcb
      clear hr hc hq hcb hqy HI
      clear hy
      by_cases hq0 : q < 0
      · go_wp2_with (first
          | (refine wpList_load_mid rfl 40 _ rfl b (off + (lo + hi) / 2 * 4) rfl (encF y) _ HR.out Tryz.underlying40 rfl size_faF ?_)
          | (go_at_fn 155; refine (HCB.out _).mono ?_; rintro e w2 ⟨rfl, hb2⟩))
        go_roundg (hi - ((lo + hi) / 2 + 1))
        case measure => omega
        case rel => exact ⟨(lo + hi) / 2 + 1, hi, by rw [show ((lo : Int) + (hi : Int)) / 2 + 1 = (((lo + hi) / 2 + 1 : Nat) : Int) by omega], rfl, by omega, hin, Nat.le_refl _, HB.out.trans (hb2.mono HB.out.size), HLEFT.out hq0⟩
      · go_wp2_with (first
          | (refine wpList_load_mid rfl 40 _ rfl b (off + (lo + hi) / 2 * 4) rfl (encF y) _ HR.out Tryz.underlying40 rfl size_faF ?_)
          | (go_at_fn 155; refine (HCB.out _).mono ?_; rintro e w2 ⟨rfl, hb2⟩))
        go_roundg ((lo + hi) / 2 - lo)
        case measure => omega
        case rel => exact ⟨lo, (lo + hi) / 2, rfl, by rw [show ((lo : Int) + (hi : Int)) / 2 = (((lo + hi) / 2 : Nat) : Int) by omega], by omega, by omega, Nat.le_refl _, HB.out.trans (hb2.mono HB.out.size), HRIGHT.out (by omega)⟩
    · obtain rfl : hi = lo := by omega
      have hcnt : belowN R t = hi := HI.out.done (by have := HN.out; omega) HS.out
      have HCNT := Lib.hid hcnt
      clear hcnt HI
      by_cases hlt2 : hi < n
      · have hml : hi < R.length := by have := HN.out; omega
        obtain ⟨b, off, rfl, hb, hc⟩ := HA.out (fun e => by rw [e] at hml; simp at hml)
        obtain ⟨y, hy, hr⟩ : ∃ y, R[hi] = y ∧ wr.rangeAt b (off + hi * 4) (encF y) := ⟨_, rfl, fun j v hj => by
          rw [World.cell?_of_block (w := w) (HB.out.block b hb)]; exact hc _ hml j v hj⟩
        have HR := Lib.hid hr
        have hcb := ch_before1 y t
        obtain ⟨q, hq⟩ : ∃ q, Lib.compareInt y.1 t = q := ⟨_, rfl⟩
        rw [hq] at hcb
        have HCB := Lib.hid hcb
        clear hr hc hq hcb
        clear hy
        go_wp2_with (first
          | (refine wpList_load_mid_if (by kernel_rfl) 40 _ rfl b (off + hi * 4) rfl (encF y) _ HR.out Tryz.underlying40 rfl size_faF ?_)
          | (go_at_fn 155; refine (HCB.out _).mono ?_; rintro e w2 ⟨rfl, hb2⟩))
        go_ret2
        exact SearchT.mk' HCNT.out (HB.out.trans (hb2.mono HB.out.size))
      · have hltz : ¬ (hi : Int) < (n : Int) := by omega
        go_wp2
        go_ret2
        exact SearchT.mk' HCNT.out HB.out

end Go.Proofs.YtlijndkpgmbapaaGreatDoor

/- Package chip, walked: what is asked without an operation. -/
namespace Go.Proofs.YtlijndkpgmbapaaGreatDoor
set_option maxRecDepth 100000
open Go.RowKit Go.Shelf Go.Proofs

theorem ch_has (o : Nat) (F : Nat → Prop) (c : ChS) (x : Int) (w : World) (h : ChAt w o F c) : Calls Tryz.prog 65 #[.pointer (some ⟨o, 0, none⟩), .int .i64 x] w fun e w' => e = .returned (.bool (decide (chHas c x))) ∧ w = w' := by
  obtain ⟨gc, kc, oa, R, ka, sx, sy, po, Fc, rfl, h⟩ := h
  have c6 : w.cell? ⟨o, 6, none⟩ = some (.slice (some ⟨gc, 0, none⟩) c.cs.length kc) := h.blk.cell 6
  unfold chHas
  clear h
  by_cases h0 : 0 ≤ x
  · have e0 : decide (0 ≤ x ∧ x < (c.cs.length : Int)) = decide (x < (c.cs.length : Int)) := by rw [Bool.eq_iff_iff]; simp [h0]
    rw [e0]
    clear e0
    go_enter Tryz.func65, Tryz.ntmps65
    go_wp2
    all_goals go_ret
    all_goals exact ⟨rfl, rfl⟩
  · have e0 : decide (0 ≤ x ∧ x < (c.cs.length : Int)) = false := decide_eq_false (by omega)
    rw [e0]
    clear e0
    go_enter Tryz.func65, Tryz.ntmps65
    go_wp2
    all_goals go_ret
    all_goals exact ⟨rfl, rfl⟩
theorem ch_off (o : Nat) (F : Nat → Prop) (c : ChS) (w : World) (h : ChAt w o F c) : Calls Tryz.prog 21 #[.pointer (some ⟨o, 0, none⟩)] w fun e w' => e = .returned (.bool c.off) ∧ w = w' := by
  obtain ⟨gc, kc, oa, R, ka, sx, sy, po, Fc, rfl, h⟩ := h
  have c1 : w.cell? ⟨o, 11, none⟩ = some (.bool c.off) := h.blk.cell 11
  clear h
  go_enter Tryz.func21, Tryz.ntmps21
  go_wp2
  go_ret
  exact ⟨rfl, rfl⟩
theorem ch_ops (o : Nat) (F : Nat → Prop) (c : ChS) (w : World) (h : ChAt w o F c) : Calls Tryz.prog 22 #[.pointer (some ⟨o, 0, none⟩)] w fun e w' => e = .returned (.int .i64 c.ops) ∧ w = w' := by
  obtain ⟨gc, kc, oa, R, ka, sx, sy, po, Fc, rfl, h⟩ := h
  have c1 : w.cell? ⟨o, 8, none⟩ = some (.int .i64 c.ops) := h.blk.cell 8
  clear h
  go_enter Tryz.func22, Tryz.ntmps22
  go_wp2
  go_ret
  exact ⟨rfl, rfl⟩
theorem ch_cuts (o : Nat) (F : Nat → Prop) (c : ChS) (w : World) (h : ChAt w o F c) : Calls Tryz.prog 23 #[.pointer (some ⟨o, 0, none⟩)] w fun e w' => e = .returned (.int .i64 c.cuts) ∧ w = w' := by
  obtain ⟨gc, kc, oa, R, ka, sx, sy, po, Fc, rfl, h⟩ := h
  have c1 : w.cell? ⟨o, 9, none⟩ = some (.int .i64 c.cuts) := h.blk.cell 9
  clear h
  go_enter Tryz.func23, Tryz.ntmps23
  go_wp2
  go_ret
  exact ⟨rfl, rfl⟩
theorem ch_rejects (o : Nat) (F : Nat → Prop) (c : ChS) (w : World) (h : ChAt w o F c) : Calls Tryz.prog 24 #[.pointer (some ⟨o, 0, none⟩)] w fun e w' => e = .returned (.int .i64 c.rej) ∧ w = w' := by
  obtain ⟨gc, kc, oa, R, ka, sx, sy, po, Fc, rfl, h⟩ := h
  have c1 : w.cell? ⟨o, 10, none⟩ = some (.int .i64 c.rej) := h.blk.cell 10
  clear h
  go_enter Tryz.func24, Tryz.ntmps24
  go_wp2
  go_ret
  exact ⟨rfl, rfl⟩
theorem blk_rng {w : World} {b : Nat} {cs : Array Value} {t : TypeId} (h : Blk w b cs t) (i : Nat) (l : List Value) (hl : ∀ j v, l[j]? = some v → cs[i + j]? = some v) : w.rangeAt b i l := fun j v hv => by
  rw [h.cell]; exact hl j v hv
def gmL (G : Gm) : List Value := [.int .i64 G.b, .int .i64 G.l, .int .i64 G.y, .int .i64 G.n, .int .i64 G.s, .int .i64 G.r]
theorem size_geoC : (Tryz.prog.info? 23).map (·.size) = some 6 := by kernel_rfl
theorem gmL_one (G : Gm) : (gmL G).toArray.all (·.oneCell') = true := by
  rw [Array.all_eq_true_iff_forall_mem]
  intro v hv
  simp [gmL] at hv
  rcases hv with rfl | rfl | rfl | rfl | rfl | rfl <;> rfl
theorem results_cell_ch {P : Program} {fn : Func} {p : Tmp} {ty : TypeId} (h : fn.results = #[.cell p ty]) (tmps : Array Value) (w : World) (g : Nat) (t : TypeId) (cs : Array Value) (d : TypeDesc)
    (hp : tmps.getD p undef = .pointer (some ⟨g, 0, none⟩)) (hg : Blk w g cs t)
    (hu : P.underlying ty = some d) (hd : (match d with | .struct _ | .array _ _ => true | _ => false) = true) (hi : (P.info? ty).map (·.size) = some cs.size) :
    (results fn tmps).run P w = .ok (.agg cs) w := by
  have hp' : tmps[p]?.getD undef = .pointer (some ⟨g, 0, none⟩) := by simpa using hp
  simp [results, h, hp', asAddr, run_loadVar_row w g t ty cs (0, 0) d hg hu hd hi]
/-- the cell that an operation is of, as the code finds it -/
theorem ChipAt.at {w : World} {o gc kc : Nat} {oa : Option Addr} {R : List Fa} {ka : Nat} {x y : Int} {po : Nat → Nat} {Fc : Nat → Nat → Prop} {c : ChS} (h : ChipAt w o gc kc oa R ka x y po Fc c) (i : Nat) (hi : i < c.cs.length) :
    w.cell? ⟨o, 6, none⟩ = some (.slice (some ⟨gc, 0, none⟩) c.cs.length kc) ∧ w.cell? ⟨gc, i, none⟩ = some (.pointer (some ⟨po i, 0, none⟩)) ∧ CellAt w (po i) (Fc i) (cellOf c i) := by
  refine ⟨h.blk.cell 6, h.row i hi, ?_⟩
  have e : cellOf c i = c.cs[i] := by unfold cellOf; rw [List.getD_eq_getElem?_getD, Int.toNat_natCast, List.getElem?_eq_getElem hi]; rfl
  rw [e]
  exact h.cell i hi
/-- what is told of a block's cell, if there is one -/
def badCh (c : ChS) (x : Int) : Bool := if chHas c x then (cellOf c x).bad else false
def modeCh (c : ChS) (x : Int) : Int := if chHas c x then (cellOf c x).mode else 0
def slcCh (c : ChS) (x : Int) : Int := if chHas c x then (cellOf c x).slc else 0
def tlcCh (c : ChS) (x : Int) : Int := if chHas c x then (cellOf c x).tlc else 0
/-- all cells can be -/
def WfCs (c : ChS) : Prop := ∀ s ∈ c.cs, WfSt s
theorem WfCs.of {c : ChS} (h : WfCs c) {i : Nat} (hi : i < c.cs.length) : WfSt (cellOf c i) := by
  have e : cellOf c i = c.cs[i] := by unfold cellOf; rw [List.getD_eq_getElem?_getD, Int.toNat_natCast, List.getElem?_eq_getElem hi]; rfl
  rw [e]
  exact h _ (List.getElem_mem hi)
theorem ch_bad (o : Nat) (F : Nat → Prop) (c : ChS) (x : Int) (w : World) (hw : WfCs c) (h : ChAt w o F c) : Calls Tryz.prog 31 #[.pointer (some ⟨o, 0, none⟩), .int .i64 x] w fun e w' => e = .returned (.bool (badCh c x)) ∧ w = w' := by
  have hh := ch_has o F c x w h
  have HH := Lib.hid hh
  clear hh
  unfold badCh
  by_cases hx : chHas c x
  · rw [if_pos hx]
    rw [decide_eq_true hx] at HH
    obtain ⟨i, rfl⟩ : ∃ i : Nat, x = i := ⟨x.toNat, by have := hx.1; omega⟩
    have hi : i < c.cs.length := by have := hx.2; omega
    obtain ⟨gc, kc, oa, R, ka, sx, sy, po, Fc, rfl, h⟩ := h
    obtain ⟨c6, ci, hc⟩ := h.at i hi
    have HB := Lib.hid (ce_bad (po i) (Fc i) (cellOf c i) w (hw.of hi) hc)
    obtain ⟨n, hn⟩ : ∃ n, c.cs.length = n := ⟨_, rfl⟩
    rw [hn] at c6 hi
    have hiz : (i : Int) < (n : Int) := by omega
    clear hx h hc hn hw
    go_enter Tryz.func31, Tryz.ntmps31
    go_wp2_with fail
    refine HH.out.mono ?_
    rintro e w1 ⟨rfl, rfl⟩
    go_wp2_with fail
    refine HB.out.mono ?_
    rintro e w1 ⟨rfl, rfl⟩
    go_wp2_with fail
    go_ret
    exact ⟨rfl, rfl⟩
  · rw [if_neg hx]
    rw [decide_eq_false hx] at HH
    clear hx h hw
    go_enter Tryz.func31, Tryz.ntmps31
    go_wp2_with fail
    refine HH.out.mono ?_
    rintro e w1 ⟨rfl, rfl⟩
    go_wp2_with fail
    go_ret
    exact ⟨rfl, rfl⟩
theorem ch_mode (o : Nat) (F : Nat → Prop) (c : ChS) (x : Int) (w : World) (hw : WfCs c) (h : ChAt w o F c) : Calls Tryz.prog 30 #[.pointer (some ⟨o, 0, none⟩), .int .i64 x] w fun e w' => e = .returned (.int .i64 (modeCh c x)) ∧ w = w' := by
  have hh := ch_has o F c x w h
  have HH := Lib.hid hh
  clear hh
  unfold modeCh
  by_cases hx : chHas c x
  · rw [if_pos hx]
    rw [decide_eq_true hx] at HH
    obtain ⟨i, rfl⟩ : ∃ i : Nat, x = i := ⟨x.toNat, by have := hx.1; omega⟩
    have hi : i < c.cs.length := by have := hx.2; omega
    obtain ⟨gc, kc, oa, R, ka, sx, sy, po, Fc, rfl, h⟩ := h
    obtain ⟨c6, ci, hc⟩ := h.at i hi
    have HB := Lib.hid (ce_mode (po i) (Fc i) (cellOf c i) w (hw.of hi) hc)
    obtain ⟨n, hn⟩ : ∃ n, c.cs.length = n := ⟨_, rfl⟩
    rw [hn] at c6 hi
    have hiz : (i : Int) < (n : Int) := by omega
    clear hx h hc hn hw
    go_enter Tryz.func30, Tryz.ntmps30
    go_wp2_with fail
    refine HH.out.mono ?_
    rintro e w1 ⟨rfl, rfl⟩
    go_wp2_with fail
    refine HB.out.mono ?_
    rintro e w1 ⟨rfl, rfl⟩
    go_wp2_with fail
    go_ret
    exact ⟨rfl, rfl⟩
  · rw [if_neg hx]
    rw [decide_eq_false hx] at HH
    clear hx h hw
    go_enter Tryz.func30, Tryz.ntmps30
    go_wp2_with fail
    refine HH.out.mono ?_
    rintro e w1 ⟨rfl, rfl⟩
    go_wp2_with fail
    go_ret
    exact ⟨rfl, rfl⟩
theorem ch_wear (o : Nat) (F : Nat → Prop) (c : ChS) (x : Int) (w : World) (hw : WfCs c) (h : ChAt w o F c) : Calls Tryz.prog 29 #[.pointer (some ⟨o, 0, none⟩), .int .i64 x] w fun e w' => e = .returned (.tuple #[.int .i64 (slcCh c x), .int .i64 (tlcCh c x)]) ∧ Below w.heap.size w w' := by
  have hh := ch_has o F c x w h
  have HH := Lib.hid hh
  clear hh
  unfold slcCh tlcCh
  by_cases hx : chHas c x
  · rw [if_pos hx, if_pos hx]
    rw [decide_eq_true hx] at HH
    obtain ⟨i, rfl⟩ : ∃ i : Nat, x = i := ⟨x.toNat, by have := hx.1; omega⟩
    have hi : i < c.cs.length := by have := hx.2; omega
    obtain ⟨gc, kc, oa, R, ka, sx, sy, po, Fc, rfl, h⟩ := h
    obtain ⟨c6, ci, hc⟩ := h.at i hi
    have HB := Lib.hid (ce_counts (po i) (Fc i) (cellOf c i) w (hw.of hi) hc)
    obtain ⟨n, hn⟩ : ∃ n, c.cs.length = n := ⟨_, rfl⟩
    rw [hn] at c6 hi
    have hiz : (i : Int) < (n : Int) := by omega
    clear hx h hc hn hw
    go_enter Tryz.func29, Tryz.ntmps29
    go_wp2_with fail
    refine HH.out.mono ?_
    rintro e w1 ⟨rfl, rfl⟩
    go_wp2_with fail
    refine HB.out.mono ?_
    rintro e w1 ⟨rfl, hb⟩
    have HB1 := Lib.hid hb
    clear hb HB
    go_wp2_with fail
    go_ret2
    exact ⟨rfl, HB1.out⟩
  · rw [if_neg hx, if_neg hx]
    rw [decide_eq_false hx] at HH
    clear hx h hw
    go_enter Tryz.func29, Tryz.ntmps29
    go_wp2_with fail
    refine HH.out.mono ?_
    rintro e w1 ⟨rfl, rfl⟩
    go_wp2_with fail
    go_ret2
    exact ⟨rfl, Below.refl _ _⟩

end Go.Proofs.YtlijndkpgmbapaaGreatDoor

/- Package chip, walked: told, count, due. -/
namespace Go.Proofs.YtlijndkpgmbapaaGreatDoor
set_option maxRecDepth 100000
open Go.RowKit Go.Shelf Go.Proofs

/-- only block o turns -/
def Fo (o : Nat) (k : Nat) : Prop := k = o
theorem ChipAt.chAt {w : World} {o gc kc : Nat} {oa : Option Addr} {R : List Fa} {ka : Nat} {x y : Int} {po : Nat → Nat} {Fc : Nat → Nat → Prop} {c : ChS} (h : ChipAt w o gc kc oa R ka x y po Fc c) : ChAt w o (FC o gc c.cs.length Fc oa R) c := ⟨gc, kc, oa, R, ka, x, y, po, Fc, rfl, h⟩
/-- its own block is written, the faults that are left stay -/
theorem ChipAt.own {w w' : World} {o gc kc : Nat} {oa : Option Addr} {R : List Fa} {ka : Nat} {x y x' y' : Int} {po : Nat → Nat} {Fc : Nat → Nat → Prop} {c c' : ChS} (h : ChipAt w o gc kc oa R ka x y po Fc c)
    (hb : Blk w' o (cch c' gc kc oa R.length ka x' y') 100) (ho : Only (Fo o) w w') (hc : c'.cs = c.cs) (hfs : c'.fs = c.fs) (hops : c.ops ≤ c'.ops) (hsh : c'.shk = true → x' = c'.a ∧ y' = c'.b) : ChipAt w' o gc kc oa R ka x' y' po Fc c' :=
  h.setBlk hb (fun k hk hn => ho.block k hk hn) hc h.fs h.srt h.len h.cap (fun t op ht => by rw [hfs]; exact h.same t op (by omega)) hsh
theorem Only.mono {F G : Nat → Prop} {w w' : World} (h : Only F w w') (hF : ∀ k, F k → G k) : Only G w w' := ⟨h.os, h.tape, h.output, h.size, fun k hk hn => h.block k hk fun hf => hn (hF k hf)⟩

set_option maxHeartbeats 1000000 in
theorem ch_count0 (o gc kc : Nat) (oa : Option Addr) (R : List Fa) (ka : Nat) (x y : Int) (po : Nat → Nat) (Fc : Nat → Nat → Prop) (c : ChS) (e : Int) (w : World) (h : ChipAt w o gc kc oa R ka x y po Fc c) (h1 : c.rej ≤ 1000000000) (h2 : c.cuts ≤ 1000000000) :
    Calls Tryz.prog 81 #[.pointer (some ⟨o, 0, none⟩), .int .i64 e] w fun r w' => r = .returned (.tuple #[]) ∧ ChipAt w' o gc kc oa R ka x y po Fc (endCh c e) ∧ Only (Fo o) w w' := by
  have c9 : w.cell? ⟨o, 9, none⟩ = some (.int .i64 c.cuts) := h.blk.cell 9
  have c10 : w.cell? ⟨o, 10, none⟩ = some (.int .i64 c.rej) := h.blk.cell 10
  have c11 : w.cell? ⟨o, 11, none⟩ = some (.bool c.off) := h.blk.cell 11
  have f9 := h.blk.free 9
  have f10 := h.blk.free 10
  have f11 := h.blk.free 11
  have H := Lib.hid h
  clear h
  unfold endCh
  by_cases h80 : e = 80
  · subst h80
    rw [if_pos rfl]
    go_enter Tryz.func81, Tryz.ntmps81
    go_wp2
    go_end0
    have hb : Blk (w.setCell ⟨o, 10, none⟩ (.int .i64 ((c.rej : Int) + 1))) o (cch { c with rej := c.rej + 1 } gc kc oa R.length ka x y) 100 := H.out.blk.set 10 _ rfl
    have ho : Only (Fo o) w (w.setCell ⟨o, 10, none⟩ (.int .i64 ((c.rej : Int) + 1))) := (Only.refl (Fo o) w).setCell ⟨o, 10, none⟩ _ (show Fo o o from rfl)
    exact ⟨rfl, H.out.own hb ho rfl rfl (Nat.le_refl _) H.out.shake, ho⟩
  · have hb80 : ((e : Int) == 80) = false := by simpa using h80
    rw [if_neg h80]
    by_cases h82 : e = 82
    · subst h82
      rw [if_pos rfl]
      clear h80
      go_enter Tryz.func81, Tryz.ntmps81
      go_wp2
      go_end0
      have hb : Blk ((w.setCell ⟨o, 9, none⟩ (.int .i64 ((c.cuts : Int) + 1))).setCell ⟨o, 11, none⟩ (.bool true)) o (cch { c with off := true, cuts := c.cuts + 1 } gc kc oa R.length ka x y) 100 := (H.out.blk.set 9 _ rfl).set 11 _ rfl
      have ho : Only (Fo o) w ((w.setCell ⟨o, 9, none⟩ (.int .i64 ((c.cuts : Int) + 1))).setCell ⟨o, 11, none⟩ (.bool true)) := ((Only.refl (Fo o) w).setCell ⟨o, 9, none⟩ _ (show Fo o o from rfl)).setCell ⟨o, 11, none⟩ _ (show Fo o o from rfl)
      exact ⟨rfl, H.out.own hb ho rfl rfl (Nat.le_refl _) H.out.shake, ho⟩
    · have hb82 : ((e : Int) == 82) = false := by simpa using h82
      rw [if_neg h82]
      go_enter Tryz.func81, Tryz.ntmps81
      go_wp2
      go_end0
      exact ⟨rfl, H.out, Only.refl _ _⟩

def shv (s : Bool) (a b : Int) : List Value := [.bool s, .int .i64 a, .int .i64 b]
theorem shv_one (s : Bool) (a b : Int) : (shv s a b).toArray.all (·.oneCell') = true := by
  rw [Array.all_eq_true_iff_forall_mem]
  intro v hv
  simp [shv] at hv
  rcases hv with rfl | rfl | rfl <;> rfl
theorem size_shake : (Tryz.prog.info? 98).map (·.size) = some 3 := by kernel_rfl
theorem blk_setMid {w : World} {b : Nat} {cs ds : Array Value} {t : TypeId} (h : Blk w b cs t) (i : Nat) (u v x : Value) (he : ((cs.setIfInBounds i u).setIfInBounds (i + 1) v).setIfInBounds (i + 2) x = ds) : Blk (w.setCells b i [u, v, x]) b ds t := by
  have h3 := ((h.set i u rfl).set (i + 1) v rfl).set (i + 1 + 1) x rfl
  rw [← he]
  exact h3
set_option maxHeartbeats 2000000 in
theorem ch_told (o gc kc : Nat) (oa : Option Addr) (R : List Fa) (ka : Nat) (x y : Int) (po : Nat → Nat) (Fc : Nat → Nat → Prop) (c : ChS) (s : ByteArray) (w : World) (h : ChipAt w o gc kc oa R ka x y po Fc c) (hs : s.size ≤ 1000) :
    Calls Tryz.prog 41 #[.pointer (some ⟨o, 0, none⟩), .string s] w fun r w' => r = .returned (.string (shakeCh c s)) ∧ (∃ x' y', ChipAt w' o gc kc oa R ka x' y' po Fc (calmCh c)) ∧ Only (Fo o) w w' := by
  have c12 : w.cell? ⟨o, 12, none⟩ = some (.bool c.shk) := h.blk.cell 12
  have hr : w.rangeAt o 12 (shv c.shk x y) := blk_rng h.blk 12 _ (fun j v hv => by
    have hj : j < 3 := (List.getElem?_eq_some_iff.1 hv).1
    obtain rfl | rfl | rfl : j = 0 ∨ j = 1 ∨ j = 2 := by omega
    all_goals exact hv)
  have hsh := h.shake
  have H := Lib.hid h
  unfold shakeCh
  cases hk : c.shk with
  | false =>
    rw [hk] at c12
    have HK := Lib.hid hk
    rw [if_neg (by simp)]
    clear h hr hsh hk
    go_enter Tryz.func41, Tryz.ntmps41
    go_wp2
    go_ret
    refine ⟨rfl, ⟨x, y, ?_⟩, Only.refl _ _⟩
    have e : calmCh c = c := by
      have h2 := HK.out
      unfold calmCh
      obtain ⟨G, cs, fs, ops, cuts, rej, off, shk, a, b⟩ := c
      simp only at h2
      rw [h2]
    rw [e]; exact H.out
  | true =>
    rw [hk] at c12 hr
    rw [if_pos rfl, ← (hsh hk).1, ← (hsh hk).2]
    obtain ⟨w1, hw1⟩ : ∃ w1, (w.alloc (.cells (shv false 0 0).toArray 98)).setRow w.heap.size (shv true x y).toArray = w1 := ⟨_, rfl⟩
    have hz1 : Blk (w.alloc (.cells (shv false 0 0).toArray 98)) w.heap.size (shv false 0 0).toArray 98 := Blk.new w _ _
    have hk1 : Blk w1 w.heap.size (shv true x y).toArray 98 := by rw [← hw1]; exact hz1.put _
    have hb1 : Below w.heap.size w w1 := by rw [← hw1]; exact below_put (Nat.le_refl _) _ ((Below.refl _ _).alloc (Nat.le_refl _) _)
    have h1 := h.after hb1
    obtain ⟨w2, hw2⟩ : ∃ w2, w1.setCells o 12 (shv false 0 0) = w2 := ⟨_, rfl⟩
    have hlt := h.blk.lt
    have hk2 : Blk w2 w.heap.size (shv true x y).toArray 98 := by
      rw [← hw2]
      unfold Blk at *
      rw [setCells_heap_ne _ _ (by omega)]
      exact hk1
    have hb2 : Blk w2 o (cch (calmCh c) gc kc oa R.length ka 0 0) 100 := by
      rw [← hw2]
      exact blk_setMid h1.blk 12 _ _ _ rfl
    have ho2 : Only (Fo o) w1 w2 := by
      rw [← hw2]
      exact Only.setCells (F := Fo o) o (show Fo o o from rfl) _ _ _ (Only.refl _ _)
    have hT : w1.there o 12 3 := fun j hj => ⟨by
      rw [h1.blk.cell]
      obtain rfl | rfl | rfl : j = 0 ∨ j = 1 ∨ j = 2 := by omega
      all_goals rfl, h1.blk.free _⟩
    have H2 : Hid (ChipAt w2 o gc kc oa R ka 0 0 po Fc (calmCh c)) := h1.own hb2 ho2 rfl rfl (Nat.le_refl _) (fun hh => by cases hh)
    have HO2 : Hid (Only (Fo o) w w2) := (Only.of_below (F := Fo o) hb1).trans ho2 (fun _ hk => Or.inl hk)
    have hr1 : w1.rangeAt o 12 (shv true x y) := fun j v hv => by rw [World.cell?_of_block (w := w) (hb1.block o hlt)]; exact hr j v hv
    have c1 : w2.cell? ⟨w.heap.size, 1, none⟩ = some (.int .i64 x) := hk2.cell 1
    have c2 : w2.cell? ⟨w.heap.size, 2, none⟩ = some (.int .i64 y) := hk2.cell 2
    have HR := Lib.hid hr
    have HZ1 := Lib.hid hz1
    have HW1 := Lib.hid hw1
    have HW2 := Lib.hid hw2
    have HT := Lib.hid hT
    clear h hr hsh hk H hz1 hw1 hk1 hb1 h1 hlt hw2 hk2 hb2 ho2 hT hr1
    go_enter Tryz.func41, Tryz.ntmps41
    go_wp2_with (first
      | (refine wpList_load_mid rfl 98 (.tmp 15) rfl o 12 rfl (shv true x y) _ HR.out Tryz.underlying98 rfl size_shake ?_)
      | (refine wpList_store_row rfl 98 (.tmp 5) (.tmp 16) rfl w.heap.size (shv true x y).toArray rfl rfl 98 (shv false 0 0).toArray HZ1.out size_shake rfl (shv_one _ _ _) ?_; change wpList _ _ _ _ _ ((w.alloc (.cells (shv false 0 0).toArray 98)).setRow w.heap.size (shv true x y).toArray); rw [HW1.out])
      | (refine wpList_store_mid rfl 98 (.tmp 20) (.tmp 18) rfl o 12 (shv false 0 0).toArray rfl rfl HT.out size_shake (shv_one _ _ _) ?_; change wpList _ _ _ _ _ (w1.setCells o 12 (shv false 0 0)); rw [HW2.out]))
    refine (fr_hurt s x y _ hs).mono ?_
    rintro e w3 ⟨rfl, hb3⟩
    have H3 := Lib.hid (H2.out.after hb3)
    have HO3 : Hid (Only (Fo o) w w3) := HO2.out.trans (Only.of_below (F := Fo o) hb3) (fun _ hk => Or.inl hk)
    clear hb3
    go_wp2_with fail
    go_ret
    exact ⟨rfl, ⟨0, 0, H3.out⟩, HO3.out⟩

/-- the world while a region goes on that looks at a chip -/
def CBc (w0 : World) (o : Nat) (cs : Array Value) (w : World) : Prop := Blk w o cs 100 ∧ Below w0.heap.size w0 w
theorem CBc.call {w0 w w' : World} {o : Nat} {cs : Array Value} (h : CBc w0 o cs w) (hb : Below w.heap.size w w') : CBc w0 o cs w' := ⟨h.1.after hb, h.2.trans (hb.mono h.2.size)⟩
/-- the chip's block is written, and nothing else of what was there -/
def ZDu (w0 : World) (o : Nat) (ds : Array Value) (w : World) : Prop := Blk w o ds 100 ∧ Only (Fo o) w0 w
theorem ZDu.call {w0 w w' : World} {o : Nat} {ds : Array Value} (h : ZDu w0 o ds w) (hb : Below w.heap.size w w') : ZDu w0 o ds w' := ⟨h.1.after hb, h.2.trans (Only.of_below (F := Fo o) hb) (fun _ hk => Or.inl hk)⟩
theorem CBc.store {w0 w : World} {o : Nat} {cs ds : Array Value} (h : CBc w0 o cs w) (v : Value) (hd : cs.setIfInBounds 7 v = ds) : ZDu w0 o ds (w.setCell ⟨o, 7, none⟩ v) :=
  ⟨h.1.set 7 v hd, (Only.of_below (F := Fo o) h.2).setCell ⟨o, 7, none⟩ v (show Fo o o from rfl)⟩
theorem ch_before (oa : Option Addr) (cap : Nat) (R : List Fa) (hl : R.length ≤ 1000000) (hs : Srt R) (t : Int) (w : World) (ha : FsAt w oa R) :
    Calls Tryz.prog 127 #[.slice oa R.length cap, .int .i64 t] w fun e w' => e = .returned (.int .i64 (belowN R t : Nat)) ∧ Below w.heap.size w w' := by
  have hcon := ch_search oa cap R hl hs t w ha
  obtain ⟨n, hn⟩ : ∃ n, R.length = n := ⟨_, rfl⟩
  rw [hn] at hcon ⊢
  have HCON := Lib.hid hcon
  clear hcon ha hs hl hn
  go_enter Tryz.func127, Tryz.ntmps127
  go_wp2_with fail
  refine HCON.out.mono ?_
  rintro e w' ⟨⟨b, rfl⟩, hb⟩
  have HB := Lib.hid hb
  clear hb
  go_wp2_with fail
  go_ret
  exact ⟨rfl, HB.out⟩
theorem run_slice_low (a : Option Addr) (len cap n : Nat) (h : n ≤ len) (w : World) : Sem.run Tryz.prog (Instr.slice 24 (.slice a len cap) (some (.int .i64 (n : Int))) none none) w = .ok (.slice (dropA a cap n) (len - n) (cap - n)) w := by
  simp [Instr.slice, Instr.sliceBounds, Instr.sliceBound, asIntOf, run_underlying Tryz.underlying24, Tryz.sizeOf40, dropA]
  exact fun hlt => absurd hlt (by omega)
theorem run_slice_high (a : Option Addr) (len cap n : Nat) (h : n ≤ cap) (w : World) : Sem.run Tryz.prog (Instr.slice 24 (.slice a len cap) none (some (.int .i64 (n : Int))) none) w = .ok (.slice (dropA a cap 0) n cap) w := by
  simp [Instr.slice, Instr.sliceBounds, Instr.sliceBound, asIntOf, run_underlying Tryz.underlying24, Tryz.sizeOf40, dropA]
  exact fun hlt => absurd hlt (by omega)
/-- what each operation of the region DU leaves -/
def vsDU (o : Nat) (oa : Option Addr) (m ka n : Nat) (t : Int) : List (Option (Tmp × Value)) :=
  [some (5, .pointer (some ⟨o, 0, none⟩)), some (6, .pointer (some ⟨o, 0, none⟩)), some (7, .pointer (some ⟨o, 0, none⟩)), some (8, .pointer (some ⟨o, 7, none⟩)), some (9, .slice oa m ka), some (10, .pointer (some ⟨o, 0, none⟩)), some (11, .pointer (some ⟨o, 0, none⟩)), some (12, .pointer (some ⟨o, 7, none⟩)), some (13, .slice oa m ka), some (14, .int .i64 t), some (15, .int .i64 (n : Int)), some (16, .slice (dropA oa ka n) (m - n) (ka - n)), some (17, .pointer (some ⟨o, 0, none⟩)), some (18, .pointer (some ⟨o, 7, none⟩)), none]
/-- the frame while the region DU runs -/
def BaseDU (o : Nat) (t : Int) (a : Act) : Prop := ∃ u : Nat → Value, a = ⟨#[.pointer (some ⟨o, 0, none⟩), .int .i64 t, u 2, u 3, .slice none 0 0, u 5, u 6, u 7, u 8, u 9, u 10, u 11, u 12, u 13, u 14, u 15, u 16, u 17, u 18, u 19, u 20, u 21, u 22, u 23, u 24, u 25, u 26, u 27, u 28, u 29, u 30], []⟩
theorem BaseDU.of {o : Nat} {t : Int} (arr : Array Value) (h : arr = #[.pointer (some ⟨o, 0, none⟩), .int .i64 t, arr.getD 2 undef, arr.getD 3 undef, .slice none 0 0, arr.getD 5 undef, arr.getD 6 undef, arr.getD 7 undef, arr.getD 8 undef, arr.getD 9 undef, arr.getD 10 undef, arr.getD 11 undef, arr.getD 12 undef, arr.getD 13 undef, arr.getD 14 undef, arr.getD 15 undef, arr.getD 16 undef, arr.getD 17 undef, arr.getD 18 undef, arr.getD 19 undef, arr.getD 20 undef, arr.getD 21 undef, arr.getD 22 undef, arr.getD 23 undef, arr.getD 24 undef, arr.getD 25 undef, arr.getD 26 undef, arr.getD 27 undef, arr.getD 28 undef, arr.getD 29 undef, arr.getD 30 undef]) : BaseDU o t ⟨arr, []⟩ := ⟨fun i => arr.getD i undef, by rw [← h]⟩
theorem BaseDU.put5 {o : Nat} {t : Int} (a : Act) (v : Value) (h : BaseDU o t a) : BaseDU o t (a.put (some 5) v) := by
  obtain ⟨u, rfl⟩ := h
  exact ⟨fun i => if i = 5 then v else u i, by kernel_rfl⟩
theorem BaseDU.put6 {o : Nat} {t : Int} (a : Act) (v : Value) (h : BaseDU o t a) : BaseDU o t (a.put (some 6) v) := by
  obtain ⟨u, rfl⟩ := h
  exact ⟨fun i => if i = 6 then v else u i, by kernel_rfl⟩
theorem BaseDU.put7 {o : Nat} {t : Int} (a : Act) (v : Value) (h : BaseDU o t a) : BaseDU o t (a.put (some 7) v) := by
  obtain ⟨u, rfl⟩ := h
  exact ⟨fun i => if i = 7 then v else u i, by kernel_rfl⟩
theorem BaseDU.put8 {o : Nat} {t : Int} (a : Act) (v : Value) (h : BaseDU o t a) : BaseDU o t (a.put (some 8) v) := by
  obtain ⟨u, rfl⟩ := h
  exact ⟨fun i => if i = 8 then v else u i, by kernel_rfl⟩
theorem BaseDU.put9 {o : Nat} {t : Int} (a : Act) (v : Value) (h : BaseDU o t a) : BaseDU o t (a.put (some 9) v) := by
  obtain ⟨u, rfl⟩ := h
  exact ⟨fun i => if i = 9 then v else u i, by kernel_rfl⟩
theorem BaseDU.put10 {o : Nat} {t : Int} (a : Act) (v : Value) (h : BaseDU o t a) : BaseDU o t (a.put (some 10) v) := by
  obtain ⟨u, rfl⟩ := h
  exact ⟨fun i => if i = 10 then v else u i, by kernel_rfl⟩
theorem BaseDU.put11 {o : Nat} {t : Int} (a : Act) (v : Value) (h : BaseDU o t a) : BaseDU o t (a.put (some 11) v) := by
  obtain ⟨u, rfl⟩ := h
  exact ⟨fun i => if i = 11 then v else u i, by kernel_rfl⟩
theorem BaseDU.put12 {o : Nat} {t : Int} (a : Act) (v : Value) (h : BaseDU o t a) : BaseDU o t (a.put (some 12) v) := by
  obtain ⟨u, rfl⟩ := h
  exact ⟨fun i => if i = 12 then v else u i, by kernel_rfl⟩
theorem BaseDU.put13 {o : Nat} {t : Int} (a : Act) (v : Value) (h : BaseDU o t a) : BaseDU o t (a.put (some 13) v) := by
  obtain ⟨u, rfl⟩ := h
  exact ⟨fun i => if i = 13 then v else u i, by kernel_rfl⟩
theorem BaseDU.put14 {o : Nat} {t : Int} (a : Act) (v : Value) (h : BaseDU o t a) : BaseDU o t (a.put (some 14) v) := by
  obtain ⟨u, rfl⟩ := h
  exact ⟨fun i => if i = 14 then v else u i, by kernel_rfl⟩
theorem BaseDU.put15 {o : Nat} {t : Int} (a : Act) (v : Value) (h : BaseDU o t a) : BaseDU o t (a.put (some 15) v) := by
  obtain ⟨u, rfl⟩ := h
  exact ⟨fun i => if i = 15 then v else u i, by kernel_rfl⟩
theorem BaseDU.put16 {o : Nat} {t : Int} (a : Act) (v : Value) (h : BaseDU o t a) : BaseDU o t (a.put (some 16) v) := by
  obtain ⟨u, rfl⟩ := h
  exact ⟨fun i => if i = 16 then v else u i, by kernel_rfl⟩
theorem BaseDU.put17 {o : Nat} {t : Int} (a : Act) (v : Value) (h : BaseDU o t a) : BaseDU o t (a.put (some 17) v) := by
  obtain ⟨u, rfl⟩ := h
  exact ⟨fun i => if i = 17 then v else u i, by kernel_rfl⟩
theorem BaseDU.put18 {o : Nat} {t : Int} (a : Act) (v : Value) (h : BaseDU o t a) : BaseDU o t (a.put (some 18) v) := by
  obtain ⟨u, rfl⟩ := h
  exact ⟨fun i => if i = 18 then v else u i, by kernel_rfl⟩
/-- what each operation of the region DV leaves -/
def vsDV (o : Nat) (oa1 : Option Addr) (m1 ka1 n1 : Nat) (t : Int) : List (Option (Tmp × Value)) :=
  [some (19, .pointer (some ⟨o, 0, none⟩)), some (20, .pointer (some ⟨o, 0, none⟩)), some (21, .pointer (some ⟨o, 7, none⟩)), some (22, .slice oa1 m1 ka1), some (23, .pointer (some ⟨o, 0, none⟩)), some (24, .pointer (some ⟨o, 0, none⟩)), some (25, .pointer (some ⟨o, 7, none⟩)), some (26, .slice oa1 m1 ka1), some (27, .int .i64 t), some (28, .int .i64 (t + 1)), some (29, .int .i64 (n1 : Int)), some (30, .slice (dropA oa1 ka1 0) n1 ka1), some (4, .slice (dropA oa1 ka1 0) n1 ka1)]
/-- the frame while the region DV runs -/
def BaseDV (o : Nat) (t : Int) (a : Act) : Prop := ∃ u : Nat → Value, a = ⟨#[.pointer (some ⟨o, 0, none⟩), .int .i64 t, u 2, u 3, u 4, u 5, u 6, u 7, u 8, u 9, u 10, u 11, u 12, u 13, u 14, u 15, u 16, u 17, u 18, u 19, u 20, u 21, u 22, u 23, u 24, u 25, u 26, u 27, u 28, u 29, u 30], []⟩
theorem BaseDV.of {o : Nat} {t : Int} (arr : Array Value) (h : arr = #[.pointer (some ⟨o, 0, none⟩), .int .i64 t, arr.getD 2 undef, arr.getD 3 undef, arr.getD 4 undef, arr.getD 5 undef, arr.getD 6 undef, arr.getD 7 undef, arr.getD 8 undef, arr.getD 9 undef, arr.getD 10 undef, arr.getD 11 undef, arr.getD 12 undef, arr.getD 13 undef, arr.getD 14 undef, arr.getD 15 undef, arr.getD 16 undef, arr.getD 17 undef, arr.getD 18 undef, arr.getD 19 undef, arr.getD 20 undef, arr.getD 21 undef, arr.getD 22 undef, arr.getD 23 undef, arr.getD 24 undef, arr.getD 25 undef, arr.getD 26 undef, arr.getD 27 undef, arr.getD 28 undef, arr.getD 29 undef, arr.getD 30 undef]) : BaseDV o t ⟨arr, []⟩ := ⟨fun i => arr.getD i undef, by rw [← h]⟩
theorem BaseDV.put19 {o : Nat} {t : Int} (a : Act) (v : Value) (h : BaseDV o t a) : BaseDV o t (a.put (some 19) v) := by
  obtain ⟨u, rfl⟩ := h
  exact ⟨fun i => if i = 19 then v else u i, by kernel_rfl⟩
theorem BaseDV.put20 {o : Nat} {t : Int} (a : Act) (v : Value) (h : BaseDV o t a) : BaseDV o t (a.put (some 20) v) := by
  obtain ⟨u, rfl⟩ := h
  exact ⟨fun i => if i = 20 then v else u i, by kernel_rfl⟩
theorem BaseDV.put21 {o : Nat} {t : Int} (a : Act) (v : Value) (h : BaseDV o t a) : BaseDV o t (a.put (some 21) v) := by
  obtain ⟨u, rfl⟩ := h
  exact ⟨fun i => if i = 21 then v else u i, by kernel_rfl⟩
theorem BaseDV.put22 {o : Nat} {t : Int} (a : Act) (v : Value) (h : BaseDV o t a) : BaseDV o t (a.put (some 22) v) := by
  obtain ⟨u, rfl⟩ := h
  exact ⟨fun i => if i = 22 then v else u i, by kernel_rfl⟩
theorem BaseDV.put23 {o : Nat} {t : Int} (a : Act) (v : Value) (h : BaseDV o t a) : BaseDV o t (a.put (some 23) v) := by
  obtain ⟨u, rfl⟩ := h
  exact ⟨fun i => if i = 23 then v else u i, by kernel_rfl⟩
theorem BaseDV.put24 {o : Nat} {t : Int} (a : Act) (v : Value) (h : BaseDV o t a) : BaseDV o t (a.put (some 24) v) := by
  obtain ⟨u, rfl⟩ := h
  exact ⟨fun i => if i = 24 then v else u i, by kernel_rfl⟩
theorem BaseDV.put25 {o : Nat} {t : Int} (a : Act) (v : Value) (h : BaseDV o t a) : BaseDV o t (a.put (some 25) v) := by
  obtain ⟨u, rfl⟩ := h
  exact ⟨fun i => if i = 25 then v else u i, by kernel_rfl⟩
theorem BaseDV.put26 {o : Nat} {t : Int} (a : Act) (v : Value) (h : BaseDV o t a) : BaseDV o t (a.put (some 26) v) := by
  obtain ⟨u, rfl⟩ := h
  exact ⟨fun i => if i = 26 then v else u i, by kernel_rfl⟩
theorem BaseDV.put27 {o : Nat} {t : Int} (a : Act) (v : Value) (h : BaseDV o t a) : BaseDV o t (a.put (some 27) v) := by
  obtain ⟨u, rfl⟩ := h
  exact ⟨fun i => if i = 27 then v else u i, by kernel_rfl⟩
theorem BaseDV.put28 {o : Nat} {t : Int} (a : Act) (v : Value) (h : BaseDV o t a) : BaseDV o t (a.put (some 28) v) := by
  obtain ⟨u, rfl⟩ := h
  exact ⟨fun i => if i = 28 then v else u i, by kernel_rfl⟩
theorem BaseDV.put29 {o : Nat} {t : Int} (a : Act) (v : Value) (h : BaseDV o t a) : BaseDV o t (a.put (some 29) v) := by
  obtain ⟨u, rfl⟩ := h
  exact ⟨fun i => if i = 29 then v else u i, by kernel_rfl⟩
theorem BaseDV.put30 {o : Nat} {t : Int} (a : Act) (v : Value) (h : BaseDV o t a) : BaseDV o t (a.put (some 30) v) := by
  obtain ⟨u, rfl⟩ := h
  exact ⟨fun i => if i = 30 then v else u i, by kernel_rfl⟩
theorem BaseDV.put4 {o : Nat} {t : Int} (a : Act) (v : Value) (h : BaseDV o t a) : BaseDV o t (a.put (some 4) v) := by
  obtain ⟨u, rfl⟩ := h
  exact ⟨fun i => if i = 4 then v else u i, by kernel_rfl⟩

/-- the faults that lie ahead of a number, and those of it -/
def aheadR (R : List Fa) (t : Int) : List Fa := R.drop (belowN R t)
def dueR (R : List Fa) (t : Int) : List Fa := (aheadR R t).take (belowN (aheadR R t) (t + 1))
set_option maxHeartbeats 4000000 in
theorem ch_due (o gc kc : Nat) (oa : Option Addr) (R : List Fa) (ka : Nat) (x y : Int) (po : Nat → Nat) (Fc : Nat → Nat → Prop) (c : ChS) (t : Int) (ht : t ≤ c.ops ∧ (0 : Int) ≤ t ∧ t ≤ 1000000000) (w : World) (h : ChipAt w o gc kc oa R ka x y po Fc c) :
    Calls Tryz.prog 83 #[.pointer (some ⟨o, 0, none⟩), .int .i64 t] w fun e w' => ∃ oa2 ka2, e = .returned (.slice oa2 (dueR R t).length ka2) ∧ FsApart w' oa2 (dueR R t) (FP o gc c.cs.length Fc) ∧
      (∃ oa' ka', ChipAt w' o gc kc oa' (aheadR R t) ka' x y po Fc c ∧ (aheadR R t ≠ [] → R ≠ [] ∧ ∀ a, oa' = some a → ∃ a0, oa = some a0 ∧ a0.block = a.block)) ∧ Only (Fo o) w w' := by
  obtain ⟨n, hn⟩ : ∃ n, belowN R t = n := ⟨_, rfl⟩
  have hnl : n ≤ R.length := by rw [← hn]; exact belowN_le R t
  obtain ⟨R1, hR1⟩ : ∃ R1, aheadR R t = R1 := ⟨_, rfl⟩
  have hR1' : R.drop n = R1 := by rw [← hR1, ← hn]; rfl
  have hs1 : Srt R1 := by rw [← hR1']; exact h.srt.drop _
  have hl1 : R1.length = R.length - n := by rw [← hR1', List.length_drop]
  have hlen := h.len
  have hcap := h.cap
  have hdue : dueR R t = R1.take (belowN R1 (t + 1)) := by unfold dueR; rw [hR1]
  have hbf : ∀ w', Below w.heap.size w w' → Calls Tryz.prog 127 #[.slice oa R.length ka, .int .i64 t] w' fun e w2 => e = .returned (.int .i64 (n : Int)) ∧ Below w'.heap.size w' w2 := fun w' hb => by
    rw [← hn]
    exact ch_before oa ka R h.len h.srt t w' (h.fs.at.below hb)
  have hsm : ∀ (u : Int) (op : Int), (c.ops : Int) ≤ u → meetF R1 u op = meetF c.fs u op := fun u op hu => by
    rw [← hR1]
    exact (meet_drop h.srt t u op (by omega)).trans (h.same u op hu)
  have hnb : R1 ≠ [] → R ≠ [] ∧ ∀ a, dropA oa ka n = some a → ∃ a0, oa = some a0 ∧ a0.block = a.block := fun hne => by
    refine ⟨fun e => hne (by rw [← hR1', e]; simp), fun a ha => ?_⟩
    unfold dropA at ha
    split at ha
    · exact ⟨a, ha, rfl⟩
    · cases oa with
      | none => cases ha
      | some a0 => exact ⟨a0, rfl, by cases ha; unfold Addr.add; split <;> rfl⟩
  have hf1 : FsApart w (dropA oa ka n) R1 (FP o gc c.cs.length Fc) := by rw [← hR1']; exact h.fs.drop n ka h.cap
  obtain ⟨n1, hn1⟩ : ∃ n1, belowN R1 (t + 1) = n1 := ⟨_, rfl⟩
  rw [hdue, hR1, hn1]
  have HN1 := Lib.hid hn1
  obtain ⟨m, hm⟩ : ∃ m, R.length = m := ⟨_, rfl⟩
  rw [hm] at hnl hl1 hlen hcap hbf
  obtain ⟨cs, hcs⟩ : ∃ cs, cch c gc kc oa m ka x y = cs := ⟨_, rfl⟩
  obtain ⟨ds, hds⟩ : ∃ ds, cch c gc kc (dropA oa ka n) (m - n) (ka - n) x y = ds := ⟨_, rfl⟩
  have HC0 : Hid (CBc w o cs w) := ⟨by rw [← hcs, ← hm]; exact h.blk, Below.refl _ _⟩
  have HDS : Hid (cs.setIfInBounds 7 (.slice (dropA oa ka n) (m - n) (ka - n)) = ds) := by
    show _ = _
    rw [← hcs, ← hds]; rfl
  have HCS := Lib.hid hcs
  have HDD := Lib.hid hds
  have HBF := Lib.hid hbf
  have HSL := Lib.hid (run_slice_low oa m ka n hnl)
  have HSM := Lib.hid hsm
  have HNB := Lib.hid hnb
  have HF1 := Lib.hid hf1
  have HS1 := Lib.hid hs1
  have HL1 := Lib.hid hl1
  have HNL := Lib.hid hnl
  have HLC := Lib.hid (⟨hlen, hcap⟩ : m ≤ 1000000 ∧ m ≤ ka)
  have H := Lib.hid h
  have HT := Lib.hid ht
  clear hn hn1 hR1 hR1' hdue hm hcs hds hbf hsm hnb hf1 hs1 hl1 hnl hlen hcap h ht
  go_enter Tryz.func83, Tryz.ntmps83
  go_wp2_with fail
  rename_i K0 hK0
  refine wp_region_list5 14 (fun _ => false) (SV2 (vsDU o oa m ka n t) (fun _ => [])) (BaseDU o t) (CBc w o cs) (fun w1 w2 => ZDu w o ds w1 → ZDu w o ds w2) (RV (vsDU o oa m ka n t) (fun j _ w1 => j = 14 → ZDu w o ds w1)) rfl (by decide) (by kernel_rfl) (by kernel_rfl) (RV.ext2 (f := fun _ => []) (fun _ _ _ _ _ h1 _ h2 h3 => h2 (h1 h3))) ?_ (HC0.out.call (Below.refl _ _).drew) (BaseDU.of _ (by kernel_rfl)) ?_ ?_
  · exact ⟨BaseDU.put5, BaseDU.put6, BaseDU.put7, BaseDU.put8, BaseDU.put9, BaseDU.put10, BaseDU.put11, BaseDU.put12, BaseDU.put13, BaseDU.put14, BaseDU.put15, BaseDU.put16, BaseDU.put17, BaseDU.put18, fun a v h => h, trivial⟩
  · refine ⟨?_, ?_, ?_, ?_, ?_, ?_, ?_, ?_, ?_, ?_, ?_, ?_, ?_, ?_, ?_, trivial⟩
    all_goals
      intro a w' hC hB hR
      obtain ⟨u, rfl⟩ := hB
      have hC := hC rfl
      have HC := Lib.hid hC
      clear hC
      clear hK0
    · clear hR
      refine if_yes (by kernel_rfl) ?_
      unfold Oper.wp
      go_simp
      exact ⟨.pointer (some ⟨o, 0, none⟩), rfl, (by first | exact HC.out | exact fun _ => HC.out | exact fun _ _ => HC.out), (fun hz => hz), rfl⟩
    · clear hR
      refine if_yes (by kernel_rfl) ?_
      unfold Oper.wp
      go_simp
      exact ⟨.pointer (some ⟨o, 0, none⟩), rfl, (by first | exact HC.out | exact fun _ => HC.out | exact fun _ _ => HC.out), (fun hz => hz), rfl⟩
    · have h6 : u 6 = .pointer (some ⟨o, 0, none⟩) := hR ⟨1, .data⟩ (by simp) rfl
      clear hR
      simp only [h6]
      clear h6
      refine if_yes (by kernel_rfl) ?_
      unfold Oper.wp
      go_simp
      exact ⟨.pointer (some ⟨o, 0, none⟩), rfl, (by first | exact HC.out | exact fun _ => HC.out | exact fun _ _ => HC.out), (fun hz => hz), rfl⟩
    · have h7 : u 7 = .pointer (some ⟨o, 0, none⟩) := hR ⟨2, .data⟩ (by simp) rfl
      clear hR
      simp only [h7]
      clear h7
      refine if_yes (by kernel_rfl) ?_
      unfold Oper.wp
      go_simp
      exact ⟨.pointer (some ⟨o, 7, none⟩), rfl, (by first | exact HC.out | exact fun _ => HC.out | exact fun _ _ => HC.out), (fun hz => hz), rfl⟩
    · have h8 : u 8 = .pointer (some ⟨o, 7, none⟩) := hR ⟨3, .data⟩ (by simp) rfl
      have hc : w'.cell? ⟨o, 7, none⟩ = some (.slice oa m ka) := by rw [HC.out.1.cell 7, ← HCS.out]; rfl
      clear hR
      simp only [h8]
      clear h8
      refine if_yes (by kernel_rfl) ?_
      unfold Oper.wp
      go_simp
      exact ⟨.slice oa m ka, rfl, (by first | exact HC.out | exact fun _ => HC.out | exact fun _ _ => HC.out), (fun hz => hz), rfl⟩
    · clear hR
      refine if_yes (by kernel_rfl) ?_
      unfold Oper.wp
      go_simp
      exact ⟨.pointer (some ⟨o, 0, none⟩), rfl, (by first | exact HC.out | exact fun _ => HC.out | exact fun _ _ => HC.out), (fun hz => hz), rfl⟩
    · have h10 : u 10 = .pointer (some ⟨o, 0, none⟩) := hR ⟨5, .data⟩ (by simp) rfl
      clear hR
      simp only [h10]
      clear h10
      refine if_yes (by kernel_rfl) ?_
      unfold Oper.wp
      go_simp
      exact ⟨.pointer (some ⟨o, 0, none⟩), rfl, (by first | exact HC.out | exact fun _ => HC.out | exact fun _ _ => HC.out), (fun hz => hz), rfl⟩
    · have h11 : u 11 = .pointer (some ⟨o, 0, none⟩) := hR ⟨6, .data⟩ (by simp) rfl
      clear hR
      simp only [h11]
      clear h11
      refine if_yes (by kernel_rfl) ?_
      unfold Oper.wp
      go_simp
      exact ⟨.pointer (some ⟨o, 7, none⟩), rfl, (by first | exact HC.out | exact fun _ => HC.out | exact fun _ _ => HC.out), (fun hz => hz), rfl⟩
    · have h12 : u 12 = .pointer (some ⟨o, 7, none⟩) := hR ⟨7, .data⟩ (by simp) rfl
      have hc : w'.cell? ⟨o, 7, none⟩ = some (.slice oa m ka) := by rw [HC.out.1.cell 7, ← HCS.out]; rfl
      clear hR
      simp only [h12]
      clear h12
      refine if_yes (by kernel_rfl) ?_
      unfold Oper.wp
      go_simp
      exact ⟨.slice oa m ka, rfl, (by first | exact HC.out | exact fun _ => HC.out | exact fun _ _ => HC.out), (fun hz => hz), rfl⟩
    · clear hR
      refine if_yes (by kernel_rfl) ?_
      unfold Oper.wp
      go_simp
      exact ⟨.int .i64 t, rfl, (by first | exact HC.out | exact fun _ => HC.out | exact fun _ _ => HC.out), (fun hz => hz), rfl⟩
    · have h13 : u 13 = .slice oa m ka := hR ⟨8, .data⟩ (by simp) rfl
      have h14 : u 14 = .int .i64 t := hR ⟨9, .data⟩ (by simp) rfl
      clear hR
      simp only [h13, h14]
      clear h13 h14
      refine if_yes (by kernel_rfl) ?_
      unfold Oper.wp
      go_simp
      refine (HBF.out _ HC.out.2).mono ?_
      rintro e w2 ⟨rfl, hb2⟩
      exact ⟨.int .i64 (n : Int), rfl, (by first | exact HC.out.call hb2 | exact fun _ => HC.out.call hb2 | exact fun _ _ => HC.out.call hb2), (fun hz => hz.call hb2), rfl⟩
    · have h9 : u 9 = .slice oa m ka := hR ⟨4, .data⟩ (by simp) rfl
      have h15 : u 15 = .int .i64 (n : Int) := hR ⟨10, .data⟩ (by simp) rfl
      have hsl := HSL.out
      clear hR
      simp only [h9, h15]
      clear h9 h15
      refine if_yes (by kernel_rfl) ?_
      unfold Oper.wp
      go_simp
      exact ⟨.slice (dropA oa ka n) (m - n) (ka - n), rfl, (by first | exact HC.out | exact fun _ => HC.out | exact fun _ _ => HC.out), (fun hz => hz), rfl⟩
    · have h5 : u 5 = .pointer (some ⟨o, 0, none⟩) := hR ⟨0, .data⟩ (by simp) rfl
      clear hR
      simp only [h5]
      clear h5
      refine if_yes (by kernel_rfl) ?_
      unfold Oper.wp
      go_simp
      exact ⟨.pointer (some ⟨o, 0, none⟩), rfl, (by first | exact HC.out | exact fun _ => HC.out | exact fun _ _ => HC.out), (fun hz => hz), rfl⟩
    · have h17 : u 17 = .pointer (some ⟨o, 0, none⟩) := hR ⟨12, .data⟩ (by simp) rfl
      clear hR
      simp only [h17]
      clear h17
      refine if_yes (by kernel_rfl) ?_
      unfold Oper.wp
      go_simp
      exact ⟨.pointer (some ⟨o, 7, none⟩), rfl, (by first | exact HC.out | exact fun _ => HC.out | exact fun _ _ => HC.out), (fun hz => hz), rfl⟩
    · have h18 : u 18 = .pointer (some ⟨o, 7, none⟩) := hR ⟨13, .data⟩ (by simp) rfl
      have h16 : u 16 = .slice (dropA oa ka n) (m - n) (ka - n) := hR ⟨11, .data⟩ (by simp) rfl
      clear hR
      simp only [h18, h16]
      clear h18 h16
      refine if_yes (by kernel_rfl) ?_
      have f7 := HC.out.1.free 7
      have c7 : w'.cell? ⟨o, 7, none⟩ = some (.slice oa m ka) := by rw [HC.out.1.cell 7, ← HCS.out]; rfl
      have hz := HC.out.store (.slice (dropA oa ka n) (m - n) (ka - n)) (HDS.out)
      unfold Oper.wp
      go_simp
      exact ⟨undef, rfl, (by first | trivial | exact fun h => absurd rfl h), (by first | exact fun _ => hz | exact hz), (by first | exact fun _ => hz | exact hz)⟩
  · intro a w2 hB hR
    have hz : ZDu w o ds w2 := hR 14 (by decide) rfl
    obtain ⟨u, rfl⟩ := hB
    have hblk : Blk w2 o (cch c gc kc (dropA oa ka n) R1.length (ka - n) x y) 100 := by rw [HL1.out, HDD.out]; exact hz.1
    have hlc := HLC.out
    have hnl := HNL.out
    have H1 : Hid (ChipAt w2 o gc kc (dropA oa ka n) R1 (ka - n) x y po Fc c) := H.out.setBlk hblk (fun k hk hne => hz.2.block k hk hne) rfl HF1.out HS1.out (by rw [HL1.out]; omega) (by rw [HL1.out]; omega) HSM.out H.out.shake
    have HO := Lib.hid hz.2
    have HNBB := HNB
    clear hR hz hblk HC0 HBF HSL HSM HNB HF1 HCS HDD HDS HL1 HNL H hnl hlc HLC
    obtain ⟨oa1, hoa1⟩ : ∃ oa1, dropA oa ka n = oa1 := ⟨_, rfl⟩
    obtain ⟨ka1, hka1⟩ : ∃ ka1, ka - n = ka1 := ⟨_, rfl⟩
    rw [hoa1, hka1] at H1
    rw [hoa1] at HNBB
    clear hoa1 hka1 HS1
    have hn1 := HN1.out
    have hnl : n1 ≤ R1.length := by rw [← hn1]; exact belowN_le R1 (t + 1)
    have hcap := H1.out.cap
    have hbf : ∀ w', Below w2.heap.size w2 w' → Calls Tryz.prog 127 #[.slice oa1 R1.length ka1, .int .i64 (t + 1)] w' fun e w3 => e = .returned (.int .i64 (n1 : Int)) ∧ Below w'.heap.size w' w3 := fun w' hb => by
      rw [← hn1]
      exact ch_before oa1 ka1 R1 H1.out.len H1.out.srt (t + 1) w' (H1.out.fs.at.below hb)
    have hf : FsApart w2 (dropA oa1 ka1 0) (R1.take n1) (FP o gc c.cs.length Fc) := by
      have h1 := (H1.out.fs.drop 0 ka1 hcap).take n1
      rwa [List.drop_zero] at h1
    have HLT : Hid ((R1.take n1).length = n1) := by show _ = _; rw [List.length_take]; omega
    obtain ⟨cs1, hcs1⟩ : ∃ cs1, cch c gc kc oa1 R1.length ka1 x y = cs1 := ⟨_, rfl⟩
    have HC1 : Hid (CBc w2 o cs1 w2) := ⟨by rw [← hcs1]; exact H1.out.blk, Below.refl _ _⟩
    obtain ⟨m1, hm1⟩ : ∃ m1, R1.length = m1 := ⟨_, rfl⟩
    rw [hm1] at hbf hcs1 hnl hcap
    have HCS1 := Lib.hid hcs1
    have HBF1 := Lib.hid hbf
    have HSL1 := Lib.hid (run_slice_high oa1 m1 ka1 n1 (by omega))
    have ht := HT.out
    have HWR : Hid (IntKind.i64.wrap (t + 1) = t + 1) := by show IntKind.i64.wrap (t + 1) = t + 1; rw [IntKind.wrap_i64]; omega
    have HF := Lib.hid hf
    clear hn1 hm1 hcs1 hbf hf hnl hcap ht HT
    go_wp2_with fail
    rename_i K0 hK0
    refine wp_region_list3 (SV (vsDV o oa1 m1 ka1 n1 t) []) (BaseDV o t) (CBc w2 o cs1) (Goes) (RV (vsDV o oa1 m1 ka1 n1 t) (fun _ _ _ => False)) rfl (by kernel_rfl) (RV.ext no_specialC) ?_ (HC1.out.call (Below.refl _ _).drew) (BaseDV.of _ (by kernel_rfl)) ?_ ?_
    · exact ⟨BaseDV.put19, BaseDV.put20, BaseDV.put21, BaseDV.put22, BaseDV.put23, BaseDV.put24, BaseDV.put25, BaseDV.put26, BaseDV.put27, BaseDV.put28, BaseDV.put29, BaseDV.put30, BaseDV.put4, trivial⟩
    · refine ⟨?_, ?_, ?_, ?_, ?_, ?_, ?_, ?_, ?_, ?_, ?_, ?_, ?_, trivial⟩
      all_goals
        intro a w' hC hB hR
        obtain ⟨u, rfl⟩ := hB
        have HC := Lib.hid hC
        clear hC
        clear hK0
      · clear hR
        refine if_yes (by kernel_rfl) ?_
        unfold Oper.wp
        go_simp
        exact ⟨.pointer (some ⟨o, 0, none⟩), rfl, HC.out, Below.refl _ _, rfl⟩
      · have h19 : u 19 = .pointer (some ⟨o, 0, none⟩) := hR ⟨0, .data⟩ (by simp) rfl
        clear hR
        simp only [h19]
        clear h19
        refine if_yes (by kernel_rfl) ?_
        unfold Oper.wp
        go_simp
        exact ⟨.pointer (some ⟨o, 0, none⟩), rfl, HC.out, Below.refl _ _, rfl⟩
      · have h20 : u 20 = .pointer (some ⟨o, 0, none⟩) := hR ⟨1, .data⟩ (by simp) rfl
        clear hR
        simp only [h20]
        clear h20
        refine if_yes (by kernel_rfl) ?_
        unfold Oper.wp
        go_simp
        exact ⟨.pointer (some ⟨o, 7, none⟩), rfl, HC.out, Below.refl _ _, rfl⟩
      · have h21 : u 21 = .pointer (some ⟨o, 7, none⟩) := hR ⟨2, .data⟩ (by simp) rfl
        have hc : w'.cell? ⟨o, 7, none⟩ = some (.slice oa1 m1 ka1) := by rw [HC.out.1.cell 7, ← HCS1.out]; rfl
        clear hR
        simp only [h21]
        clear h21
        refine if_yes (by kernel_rfl) ?_
        unfold Oper.wp
        go_simp
        exact ⟨.slice oa1 m1 ka1, rfl, HC.out, Below.refl _ _, rfl⟩
      · clear hR
        refine if_yes (by kernel_rfl) ?_
        unfold Oper.wp
        go_simp
        exact ⟨.pointer (some ⟨o, 0, none⟩), rfl, HC.out, Below.refl _ _, rfl⟩
      · have h23 : u 23 = .pointer (some ⟨o, 0, none⟩) := hR ⟨4, .data⟩ (by simp) rfl
        clear hR
        simp only [h23]
        clear h23
        refine if_yes (by kernel_rfl) ?_
        unfold Oper.wp
        go_simp
        exact ⟨.pointer (some ⟨o, 0, none⟩), rfl, HC.out, Below.refl _ _, rfl⟩
      · have h24 : u 24 = .pointer (some ⟨o, 0, none⟩) := hR ⟨5, .data⟩ (by simp) rfl
        clear hR
        simp only [h24]
        clear h24
        refine if_yes (by kernel_rfl) ?_
        unfold Oper.wp
        go_simp
        exact ⟨.pointer (some ⟨o, 7, none⟩), rfl, HC.out, Below.refl _ _, rfl⟩
      · have h25 : u 25 = .pointer (some ⟨o, 7, none⟩) := hR ⟨6, .data⟩ (by simp) rfl
        have hc : w'.cell? ⟨o, 7, none⟩ = some (.slice oa1 m1 ka1) := by rw [HC.out.1.cell 7, ← HCS1.out]; rfl
        clear hR
        simp only [h25]
        clear h25
        refine if_yes (by kernel_rfl) ?_
        unfold Oper.wp
        go_simp
        exact ⟨.slice oa1 m1 ka1, rfl, HC.out, Below.refl _ _, rfl⟩
      · clear hR
        refine if_yes (by kernel_rfl) ?_
        unfold Oper.wp
        go_simp
        exact ⟨.int .i64 t, rfl, HC.out, Below.refl _ _, rfl⟩
      · have h27 : u 27 = .int .i64 t := hR ⟨8, .data⟩ (by simp) rfl
        have hw := HWR.out
        clear hR
        simp only [h27]
        clear h27
        refine if_yes (by kernel_rfl) ?_
        unfold Oper.wp
        go_simp
        exact ⟨.int .i64 (t + 1), rfl, HC.out, Below.refl _ _, rfl⟩
      · have h26 : u 26 = .slice oa1 m1 ka1 := hR ⟨7, .data⟩ (by simp) rfl
        have h28 : u 28 = .int .i64 (t + 1) := hR ⟨9, .data⟩ (by simp) rfl
        clear hR
        simp only [h26, h28]
        clear h26 h28
        refine if_yes (by kernel_rfl) ?_
        unfold Oper.wp
        go_simp
        refine (HBF1.out _ HC.out.2).mono ?_
        rintro e w2 ⟨rfl, hb2⟩
        exact ⟨.int .i64 (n1 : Int), rfl, HC.out.call hb2, hb2, rfl⟩
      · have h22 : u 22 = .slice oa1 m1 ka1 := hR ⟨3, .data⟩ (by simp) rfl
        have h29 : u 29 = .int .i64 (n1 : Int) := hR ⟨10, .data⟩ (by simp) rfl
        have hsl := HSL1.out
        clear hR
        simp only [h22, h29]
        clear h22 h29
        refine if_yes (by kernel_rfl) ?_
        unfold Oper.wp
        go_simp
        exact ⟨.slice (dropA oa1 ka1 0) n1 ka1, rfl, HC.out, Below.refl _ _, rfl⟩
      · have h30 : u 30 = .slice (dropA oa1 ka1 0) n1 ka1 := hR ⟨11, .data⟩ (by simp) rfl
        clear hR
        simp only [h30]
        clear h30
        refine if_yes (by kernel_rfl) ?_
        unfold Oper.wp
        go_simp
        exact ⟨.slice (dropA oa1 ka1 0) n1 ka1, rfl, HC.out, Below.refl _ _, rfl⟩
    · intro a w3 hC hB hR
      have h4 := hR 12 (by decide)
      obtain ⟨u2, rfl⟩ := hB
      have h4 : u2 4 = .slice (dropA oa1 ka1 0) n1 ka1 := h4
      simp only [h4]
      have hb3 := hC.2
      have H3 := Lib.hid (H1.out.after hb3)
      have HO3 : Hid (Only (Fo o) w w3) := HO.out.trans (Only.of_below (F := Fo o) hb3) (fun _ hk => Or.inl hk)
      have hf3 : FsApart w3 (dropA oa1 ka1 0) (R1.take n1) (FP o gc c.cs.length Fc) := HF.out.keep fun k hk => by
        obtain ⟨hne, a, ha, rfl⟩ := hk
        obtain ⟨b, off, h1, h2, _⟩ := HF.out hne
        rw [ha] at h1
        obtain rfl := Option.some.inj h1
        exact hb3.block _ h2
      have HF3 := Lib.hid hf3
      clear hR hC hb3 hf3 h4
      go_wp2_with fail
      go_ret
      exact ⟨dropA oa1 ka1 0, ka1, by rw [HLT.out]; rfl, HF3.out, ⟨oa1, ka1, H3.out, HNBB.out⟩, HO3.out⟩

end Go.Proofs.YtlijndkpgmbapaaGreatDoor
