/- Layer 9, the laws: FaultCounts. -/
import Derived.Test.YtbpkaegkcknemaaFaL1
import Derived.Test.YtbpkaegkcknemaaFaI
import Derived.Test.YtbpkaegkcknemaaFaR3
namespace Go.Proofs.Ytbpkaegkcknemaa
set_option maxRecDepth 100000
open Go.RowKit Go.Shelf Go.Proofs
attribute [local go_sem] Oper.semAt_some

theorem eql_fnilF (gf : Fn) (lb : Array Value) (w : World) : Sem.run Try.prog (binOp .eql 32 (.func gf #[] lb) .nilFunc) w = .ok (.bool false) w := by
  rfl
theorem inBlock_bothF {K : Act → World → Prop} {Q' : Exit → Act → World → Prop} {e : Exit} {a : Act} {w : World} (he : e = .normal ∨ e = .exit 0) (h : Exit.inBlock 0 (Exit.then K Q') .normal a w) : Exit.inBlock 0 (Exit.then K Q') e a w := by
  rcases he with rfl | rfl
  · exact h
  · exact h
theorem wpIn_exit0F {F : Fence} {n : Nat} {P : Program} {Q : Exit → Act → World → Prop} {a : Act} {w : World} (h : Q (.exit 0) a w) : (Code.exit 0).wpIn F n P Q a w := by
  exact wpIn_exit h
/-- what has been collected: in the box b8 a slice of the call's own; all else that was there as it was -/
structure CollF (w2 : World) (b8 : Nat) (xs : List Fa) (W : World) : Prop where
  some : ∃ u, Boxed W b8 22 u ∧ W.ownsRow w2.heap.size 26 4 u xs.length (flatF xs) ∧ True
  low : OG b8 w2 W
theorem ownsRow_afterF {W W' : World} {B : Nat} {e : TypeId} {size : Nat} {v : Value} {n : Nat} {xs : List Value} (h : W.ownsRow B e size v n xs) (hb : Below W.heap.size W W') : W'.ownsRow B e size v n xs := by
  refine ⟨h.1, ?_⟩
  rcases h.2 with ⟨rfl, h0⟩ | ⟨g, cap, cur, rfl, hbg, hg, h1⟩
  · exact .inl ⟨rfl, h0⟩
  · exact .inr ⟨g, cap, cur, rfl, hbg, (hb.block g (Array.getElem?_eq_some_iff.1 hg).1).trans hg, h1⟩
theorem boxed_afterF {W W' : World} {B : Nat} {t : TypeId} {v : Value} (h : Boxed W B t v) (hb : Below W.heap.size W W') : Boxed W' B t v := (hb.block B h.lt).trans h
theorem CollF.after {w2 W W' : World} {b8 : Nat} {xs : List Fa} (h : CollF w2 b8 xs W) (hb : Below W.heap.size W W') : CollF w2 b8 xs W' := by
  obtain ⟨u, h1, h2, _⟩ := h.some
  exact ⟨⟨u, boxed_afterF h1 hb, ownsRow_afterF h2 hb, trivial⟩, h.low.trans (OG.of_below hb)⟩
theorem collF_from {w2 : World} {b8 : Nat} : OwnFrom w2.heap.size (fun xs W => CollF w2 b8 xs W) := by
  intro xs X Y row h hg hr
  refine ⟨holdsRow_own w2.heap.size b8 _ _ 4 List.length flatF (fun _ _ => True) xs X Y row h.some hg (fun r e => (hr r e).2), ?_⟩
  have hl := h.low
  refine ⟨hg.os.trans hl.os, hg.tape.trans hl.tape, hg.output.trans hl.output, Nat.le_trans hl.size hg.size, fun p hp hn => (hg.block p (Nat.lt_of_lt_of_le hp hl.size) (fun e => ?_)).trans (hl.block p hp hn)⟩
  have := (hr p e.symm).1
  omega
/-- faults that lay there lie there still: the box holds none of them -/
theorem CollF.fs {w2 W : World} {b8 : Nat} {xs : List Fa} (h : CollF w2 b8 xs W) {u0 : Value} (h8 : Boxed w2 b8 22 u0) (hu : ∀ k i, u0 ≠ .int k i) {oa : Option Addr} {l : List Fa} (hf : FsAt w2 oa l) : FsAt W oa l := by
  intro hl
  obtain ⟨b, off, ho, hb, hc⟩ := hf hl
  have hne : b ≠ b8 := by
    intro e
    subst e
    have hl0 : 0 < l.length := by
      rcases Nat.eq_zero_or_pos l.length with h | h
      · exact absurd (List.eq_nil_of_length_eq_zero h) hl
      · exact h
    have h1 := hc 0 hl0 0 _ rfl
    have h2 : w2.cell? ⟨b, off + 0 * 4 + 0, none⟩ = (#[u0] : Array Value)[off + 0 * 4 + 0]? := by
      have h8' : w2.heap[b]? = Option.some (.cells #[u0] 22 (0, 0)) := h8
      simp [World.cell?, h8']
    rw [h1] at h2
    have h3 := Array.getElem?_eq_some_iff.1 h2.symm
    obtain ⟨h3, h4⟩ := h3
    have h5 : off + 0 * 4 + 0 = 0 := by simpa using h3
    simp only [h5] at h4
    exact hu _ _ h4
  exact ⟨b, off, ho, Nat.lt_of_lt_of_le hb h.low.size, fun i hi t v hv => by
    rw [World.cell?_of_block (w := w2) (h.low.block b hb (fun e => hne (Option.some.inj e)))]; exact hc i hi t v hv⟩

theorem ownsRow_monoF {W : World} {B B' : Nat} {e : TypeId} {size : Nat} {v : Value} {n : Nat} {xs : List Value} (h : W.ownsRow B e size v n xs) (hb : B' ≤ B) : W.ownsRow B' e size v n xs := by
  refine ⟨h.1, ?_⟩
  rcases h.2 with ⟨rfl, h0⟩ | ⟨g, cap, cur, rfl, hbg, hg, h1⟩
  · exact .inl ⟨rfl, h0⟩
  · exact .inr ⟨g, cap, cur, rfl, by omega, hg, h1⟩
theorem FsAt.first {w : World} {oa : Option Addr} {l : List Fa} (h : FsAt w oa l) (k : Nat) : FsAt w oa (l.take k) := by
  intro hne
  obtain ⟨b, off, ho, hb, hc⟩ := h (fun e => hne (by rw [e]; simp))
  refine ⟨b, off, ho, hb, fun i hi => ?_⟩
  have hi2 : i < l.length := by rw [List.length_take] at hi; omega
  rw [List.getElem_take]
  exact hc i hi2

/-- what is left when all has been collected -/
structure CFc (w0 : World) (oa : Option Addr) (l : List Fa) (ua : Option Addr) (uc : Nat) (va : Option Addr) (m b5 b8 : Nat) (k : Int) (xs : List Fa) (D : Nat) (w : World) : Prop where
  kb : b5 < w.heap.size
  kc : w.cell? ⟨b5, 0, none⟩ = some (.int .i64 k)
  sb : b8 < w.heap.size
  sc : w.cell? ⟨b8, 0, none⟩ = some (.slice ua m uc)
  fs : FsAt w oa l
  fu : FsAt w ua xs
  fv : FsAt w va xs
  df : w.heap[D]? = some (.deferred (some []))
  low : Below w0.heap.size w0 w
theorem CFc.call {w0 w w' : World} {oa : Option Addr} {l : List Fa} {ua : Option Addr} {uc : Nat} {va : Option Addr} {m b5 b8 : Nat} {k : Int} {xs : List Fa} {D : Nat} (h : CFc w0 oa l ua uc va m b5 b8 k xs D w) (hb : Below w.heap.size w w') : CFc w0 oa l ua uc va m b5 b8 k xs D w' :=
  ⟨Nat.lt_of_lt_of_le h.kb hb.size, (hb.cell (p := ⟨b5, 0, none⟩) h.kb).trans h.kc, Nat.lt_of_lt_of_le h.sb hb.size, (hb.cell (p := ⟨b8, 0, none⟩) h.sb).trans h.sc, h.fs.below hb, h.fu.below hb, h.fv.below hb,
    (hb.block D (Array.getElem?_eq_some_iff.1 h.df).1).trans h.df, h.low.trans (hb.mono h.low.size)⟩
def SpW (L : List Fa) (j : Nat) (a : Act) (w : World) : Prop :=
  (j = 17 → ∃ oa cap, a.tmps.getD 59 undef = .slice oa L.length cap ∧ FsAt w oa L) ∧ (j = 20 → ∃ oa cap, a.tmps.getD 62 undef = .slice oa L.length cap ∧ FsAt w oa L)
/-- the slots that a fact looks at, those of a fact of one's own by the operation's number -/
def SV2F (vs : List (Option (Tmp × Value))) (f : Nat → List Tmp) : List (List Tmp) := vs.mapIdx fun j o => match o with
  | some (d, _) => [d]
  | none => f j
theorem RV.ext2F {vs : List (Option (Tmp × Value))} {f : Nat → List Tmp} {Sp : Nat → Act → World → Prop} {T : World → World → Prop}
    (hsp : ∀ j a a' w w', Sp j a w → (∀ d ∈ f j, a'.tmps.getD d undef = a.tmps.getD d undef) → T w w' → Sp j a' w') :
    ∀ j a a' w w', RV vs Sp j a w → (∀ s ∈ (SV2F vs f).getD j [], a'.tmps.getD s undef = a.tmps.getD s undef) → T w w' → RV vs Sp j a' w' := by
  intro j a a' w w' h hd hT
  unfold RV at *
  rw [List.getD_eq_getElem?_getD] at hd
  cases hj : vs[j]? with
  | none => trivial
  | some o =>
    rw [hj] at h
    cases o with
    | none => exact hsp j a a' w w' h (fun d hm => hd d (by simp [SV2F, hj]; exact hm)) hT
    | some p => exact (hd p.1 (by simp [SV2F, hj])).trans h
theorem SpW.ext {L : List Fa} : ∀ j a a' w w', SpW L j a w → (∀ s ∈ (if j = 17 then [59] else if j = 20 then [62] else []), a'.tmps.getD s undef = a.tmps.getD s undef) → Goes w w' → SpW L j a' w' := by
  intro j a a' w w' ⟨h1, h2⟩ hd hT
  refine ⟨fun hj => ?_, fun hj => ?_⟩
  · obtain ⟨oa, cap, h3, h4⟩ := h1 hj
    subst hj
    exact ⟨oa, cap, (hd 59 (by simp)).trans h3, h4.below hT⟩
  · obtain ⟨oa, cap, h3, h4⟩ := h2 hj
    subst hj
    exact ⟨oa, cap, (hd 62 (by simp)).trans h3, h4.below hT⟩

/-- what each operation of the region FC leaves -/
def vsFC (oa : Option Addr) (n cap : Nat) (kd k : Int) (ua : Option Addr) (uc : Nat) (ob : Option Addr) (mm capb c : Nat) : List (Option (Tmp × Value)) :=
  [some (42, .slice ua mm uc), some (43, .slice ob mm capb), some (44, .bool true), some (45, .bool true), some (46, .slice oa n cap), some (47, .int .i64 kd), some (48, .int .i64 k), some (49, .int .i64 (c : Nat)), some (50, .slice oa n cap), some (51, .int .i64 kd), some (52, .int .i64 k), some (53, .int .i64 (c : Nat)), some (54, .bool true), some (55, .bool true), some (56, .bool true), some (57, .slice oa n cap), some (58, .int .i64 kd), none, some (60, .slice oa n cap), some (61, .int .i64 kd), none, some (63, .bool true), some (64, .bool true), some (65, .bool true), some (66, .bool true), some (67, .bool true), some (6, .bool true)]
/-- the frame while the region FC runs -/
def BaseFC (oa : Option Addr) (n cap b5 b8 : Nat) (kd : Int) (ob : Option Addr) (mm capb D : Nat) (a : Act) : Prop := ∃ u : Nat → Value, a = ⟨#[.slice oa n cap, .int .i64 kd, u 2, u 3, u 4, .pointer (some ⟨b5, 0, none⟩), u 6, u 7, .pointer (some ⟨b8, 0, none⟩), .slice ob mm capb, u 10, u 11, u 12, u 13, u 14, u 15, u 16, u 17, u 18, u 19, u 20, u 21, u 22, u 23, u 24, u 25, u 26, u 27, u 28, u 29, u 30, u 31, u 32, u 33, u 34, u 35, u 36, u 37, u 38, u 39, u 40, u 41, u 42, u 43, u 44, u 45, u 46, u 47, u 48, u 49, u 50, u 51, u 52, u 53, u 54, u 55, u 56, u 57, u 58, u 59, u 60, u 61, u 62, u 63, u 64, u 65, u 66, u 67], [{ target := .collected D, args := #[] }]⟩
theorem BaseFC.of {oa : Option Addr} {n cap b5 b8 : Nat} {kd : Int} {ob : Option Addr} {mm capb D : Nat} (arr : Array Value) (h : arr = #[.slice oa n cap, .int .i64 kd, arr.getD 2 undef, arr.getD 3 undef, arr.getD 4 undef, .pointer (some ⟨b5, 0, none⟩), arr.getD 6 undef, arr.getD 7 undef, .pointer (some ⟨b8, 0, none⟩), .slice ob mm capb, arr.getD 10 undef, arr.getD 11 undef, arr.getD 12 undef, arr.getD 13 undef, arr.getD 14 undef, arr.getD 15 undef, arr.getD 16 undef, arr.getD 17 undef, arr.getD 18 undef, arr.getD 19 undef, arr.getD 20 undef, arr.getD 21 undef, arr.getD 22 undef, arr.getD 23 undef, arr.getD 24 undef, arr.getD 25 undef, arr.getD 26 undef, arr.getD 27 undef, arr.getD 28 undef, arr.getD 29 undef, arr.getD 30 undef, arr.getD 31 undef, arr.getD 32 undef, arr.getD 33 undef, arr.getD 34 undef, arr.getD 35 undef, arr.getD 36 undef, arr.getD 37 undef, arr.getD 38 undef, arr.getD 39 undef, arr.getD 40 undef, arr.getD 41 undef, arr.getD 42 undef, arr.getD 43 undef, arr.getD 44 undef, arr.getD 45 undef, arr.getD 46 undef, arr.getD 47 undef, arr.getD 48 undef, arr.getD 49 undef, arr.getD 50 undef, arr.getD 51 undef, arr.getD 52 undef, arr.getD 53 undef, arr.getD 54 undef, arr.getD 55 undef, arr.getD 56 undef, arr.getD 57 undef, arr.getD 58 undef, arr.getD 59 undef, arr.getD 60 undef, arr.getD 61 undef, arr.getD 62 undef, arr.getD 63 undef, arr.getD 64 undef, arr.getD 65 undef, arr.getD 66 undef, arr.getD 67 undef]) : BaseFC oa n cap b5 b8 kd ob mm capb D ⟨arr, [{ target := .collected D, args := #[] }]⟩ := ⟨fun i => arr.getD i undef, by rw [← h]⟩
theorem BaseFC.put42 {oa : Option Addr} {n cap b5 b8 : Nat} {kd : Int} {ob : Option Addr} {mm capb D : Nat} (a : Act) (v : Value) (h : BaseFC oa n cap b5 b8 kd ob mm capb D a) : BaseFC oa n cap b5 b8 kd ob mm capb D (a.put (some 42) v) := by
  obtain ⟨u, rfl⟩ := h
  exact ⟨fun i => if i = 42 then v else u i, by kernel_rfl⟩
theorem BaseFC.put43 {oa : Option Addr} {n cap b5 b8 : Nat} {kd : Int} {ob : Option Addr} {mm capb D : Nat} (a : Act) (v : Value) (h : BaseFC oa n cap b5 b8 kd ob mm capb D a) : BaseFC oa n cap b5 b8 kd ob mm capb D (a.put (some 43) v) := by
  obtain ⟨u, rfl⟩ := h
  exact ⟨fun i => if i = 43 then v else u i, by kernel_rfl⟩
theorem BaseFC.put44 {oa : Option Addr} {n cap b5 b8 : Nat} {kd : Int} {ob : Option Addr} {mm capb D : Nat} (a : Act) (v : Value) (h : BaseFC oa n cap b5 b8 kd ob mm capb D a) : BaseFC oa n cap b5 b8 kd ob mm capb D (a.put (some 44) v) := by
  obtain ⟨u, rfl⟩ := h
  exact ⟨fun i => if i = 44 then v else u i, by kernel_rfl⟩
theorem BaseFC.put45 {oa : Option Addr} {n cap b5 b8 : Nat} {kd : Int} {ob : Option Addr} {mm capb D : Nat} (a : Act) (v : Value) (h : BaseFC oa n cap b5 b8 kd ob mm capb D a) : BaseFC oa n cap b5 b8 kd ob mm capb D (a.put (some 45) v) := by
  obtain ⟨u, rfl⟩ := h
  exact ⟨fun i => if i = 45 then v else u i, by kernel_rfl⟩
theorem BaseFC.put46 {oa : Option Addr} {n cap b5 b8 : Nat} {kd : Int} {ob : Option Addr} {mm capb D : Nat} (a : Act) (v : Value) (h : BaseFC oa n cap b5 b8 kd ob mm capb D a) : BaseFC oa n cap b5 b8 kd ob mm capb D (a.put (some 46) v) := by
  obtain ⟨u, rfl⟩ := h
  exact ⟨fun i => if i = 46 then v else u i, by kernel_rfl⟩
theorem BaseFC.put47 {oa : Option Addr} {n cap b5 b8 : Nat} {kd : Int} {ob : Option Addr} {mm capb D : Nat} (a : Act) (v : Value) (h : BaseFC oa n cap b5 b8 kd ob mm capb D a) : BaseFC oa n cap b5 b8 kd ob mm capb D (a.put (some 47) v) := by
  obtain ⟨u, rfl⟩ := h
  exact ⟨fun i => if i = 47 then v else u i, by kernel_rfl⟩
theorem BaseFC.put48 {oa : Option Addr} {n cap b5 b8 : Nat} {kd : Int} {ob : Option Addr} {mm capb D : Nat} (a : Act) (v : Value) (h : BaseFC oa n cap b5 b8 kd ob mm capb D a) : BaseFC oa n cap b5 b8 kd ob mm capb D (a.put (some 48) v) := by
  obtain ⟨u, rfl⟩ := h
  exact ⟨fun i => if i = 48 then v else u i, by kernel_rfl⟩
theorem BaseFC.put49 {oa : Option Addr} {n cap b5 b8 : Nat} {kd : Int} {ob : Option Addr} {mm capb D : Nat} (a : Act) (v : Value) (h : BaseFC oa n cap b5 b8 kd ob mm capb D a) : BaseFC oa n cap b5 b8 kd ob mm capb D (a.put (some 49) v) := by
  obtain ⟨u, rfl⟩ := h
  exact ⟨fun i => if i = 49 then v else u i, by kernel_rfl⟩
theorem BaseFC.put50 {oa : Option Addr} {n cap b5 b8 : Nat} {kd : Int} {ob : Option Addr} {mm capb D : Nat} (a : Act) (v : Value) (h : BaseFC oa n cap b5 b8 kd ob mm capb D a) : BaseFC oa n cap b5 b8 kd ob mm capb D (a.put (some 50) v) := by
  obtain ⟨u, rfl⟩ := h
  exact ⟨fun i => if i = 50 then v else u i, by kernel_rfl⟩
theorem BaseFC.put51 {oa : Option Addr} {n cap b5 b8 : Nat} {kd : Int} {ob : Option Addr} {mm capb D : Nat} (a : Act) (v : Value) (h : BaseFC oa n cap b5 b8 kd ob mm capb D a) : BaseFC oa n cap b5 b8 kd ob mm capb D (a.put (some 51) v) := by
  obtain ⟨u, rfl⟩ := h
  exact ⟨fun i => if i = 51 then v else u i, by kernel_rfl⟩
theorem BaseFC.put52 {oa : Option Addr} {n cap b5 b8 : Nat} {kd : Int} {ob : Option Addr} {mm capb D : Nat} (a : Act) (v : Value) (h : BaseFC oa n cap b5 b8 kd ob mm capb D a) : BaseFC oa n cap b5 b8 kd ob mm capb D (a.put (some 52) v) := by
  obtain ⟨u, rfl⟩ := h
  exact ⟨fun i => if i = 52 then v else u i, by kernel_rfl⟩
theorem BaseFC.put53 {oa : Option Addr} {n cap b5 b8 : Nat} {kd : Int} {ob : Option Addr} {mm capb D : Nat} (a : Act) (v : Value) (h : BaseFC oa n cap b5 b8 kd ob mm capb D a) : BaseFC oa n cap b5 b8 kd ob mm capb D (a.put (some 53) v) := by
  obtain ⟨u, rfl⟩ := h
  exact ⟨fun i => if i = 53 then v else u i, by kernel_rfl⟩
theorem BaseFC.put54 {oa : Option Addr} {n cap b5 b8 : Nat} {kd : Int} {ob : Option Addr} {mm capb D : Nat} (a : Act) (v : Value) (h : BaseFC oa n cap b5 b8 kd ob mm capb D a) : BaseFC oa n cap b5 b8 kd ob mm capb D (a.put (some 54) v) := by
  obtain ⟨u, rfl⟩ := h
  exact ⟨fun i => if i = 54 then v else u i, by kernel_rfl⟩
theorem BaseFC.put55 {oa : Option Addr} {n cap b5 b8 : Nat} {kd : Int} {ob : Option Addr} {mm capb D : Nat} (a : Act) (v : Value) (h : BaseFC oa n cap b5 b8 kd ob mm capb D a) : BaseFC oa n cap b5 b8 kd ob mm capb D (a.put (some 55) v) := by
  obtain ⟨u, rfl⟩ := h
  exact ⟨fun i => if i = 55 then v else u i, by kernel_rfl⟩
theorem BaseFC.put56 {oa : Option Addr} {n cap b5 b8 : Nat} {kd : Int} {ob : Option Addr} {mm capb D : Nat} (a : Act) (v : Value) (h : BaseFC oa n cap b5 b8 kd ob mm capb D a) : BaseFC oa n cap b5 b8 kd ob mm capb D (a.put (some 56) v) := by
  obtain ⟨u, rfl⟩ := h
  exact ⟨fun i => if i = 56 then v else u i, by kernel_rfl⟩
theorem BaseFC.put57 {oa : Option Addr} {n cap b5 b8 : Nat} {kd : Int} {ob : Option Addr} {mm capb D : Nat} (a : Act) (v : Value) (h : BaseFC oa n cap b5 b8 kd ob mm capb D a) : BaseFC oa n cap b5 b8 kd ob mm capb D (a.put (some 57) v) := by
  obtain ⟨u, rfl⟩ := h
  exact ⟨fun i => if i = 57 then v else u i, by kernel_rfl⟩
theorem BaseFC.put58 {oa : Option Addr} {n cap b5 b8 : Nat} {kd : Int} {ob : Option Addr} {mm capb D : Nat} (a : Act) (v : Value) (h : BaseFC oa n cap b5 b8 kd ob mm capb D a) : BaseFC oa n cap b5 b8 kd ob mm capb D (a.put (some 58) v) := by
  obtain ⟨u, rfl⟩ := h
  exact ⟨fun i => if i = 58 then v else u i, by kernel_rfl⟩
theorem BaseFC.put59 {oa : Option Addr} {n cap b5 b8 : Nat} {kd : Int} {ob : Option Addr} {mm capb D : Nat} (a : Act) (v : Value) (h : BaseFC oa n cap b5 b8 kd ob mm capb D a) : BaseFC oa n cap b5 b8 kd ob mm capb D (a.put (some 59) v) := by
  obtain ⟨u, rfl⟩ := h
  exact ⟨fun i => if i = 59 then v else u i, by kernel_rfl⟩
theorem BaseFC.put60 {oa : Option Addr} {n cap b5 b8 : Nat} {kd : Int} {ob : Option Addr} {mm capb D : Nat} (a : Act) (v : Value) (h : BaseFC oa n cap b5 b8 kd ob mm capb D a) : BaseFC oa n cap b5 b8 kd ob mm capb D (a.put (some 60) v) := by
  obtain ⟨u, rfl⟩ := h
  exact ⟨fun i => if i = 60 then v else u i, by kernel_rfl⟩
theorem BaseFC.put61 {oa : Option Addr} {n cap b5 b8 : Nat} {kd : Int} {ob : Option Addr} {mm capb D : Nat} (a : Act) (v : Value) (h : BaseFC oa n cap b5 b8 kd ob mm capb D a) : BaseFC oa n cap b5 b8 kd ob mm capb D (a.put (some 61) v) := by
  obtain ⟨u, rfl⟩ := h
  exact ⟨fun i => if i = 61 then v else u i, by kernel_rfl⟩
theorem BaseFC.put62 {oa : Option Addr} {n cap b5 b8 : Nat} {kd : Int} {ob : Option Addr} {mm capb D : Nat} (a : Act) (v : Value) (h : BaseFC oa n cap b5 b8 kd ob mm capb D a) : BaseFC oa n cap b5 b8 kd ob mm capb D (a.put (some 62) v) := by
  obtain ⟨u, rfl⟩ := h
  exact ⟨fun i => if i = 62 then v else u i, by kernel_rfl⟩
theorem BaseFC.put63 {oa : Option Addr} {n cap b5 b8 : Nat} {kd : Int} {ob : Option Addr} {mm capb D : Nat} (a : Act) (v : Value) (h : BaseFC oa n cap b5 b8 kd ob mm capb D a) : BaseFC oa n cap b5 b8 kd ob mm capb D (a.put (some 63) v) := by
  obtain ⟨u, rfl⟩ := h
  exact ⟨fun i => if i = 63 then v else u i, by kernel_rfl⟩
theorem BaseFC.put64 {oa : Option Addr} {n cap b5 b8 : Nat} {kd : Int} {ob : Option Addr} {mm capb D : Nat} (a : Act) (v : Value) (h : BaseFC oa n cap b5 b8 kd ob mm capb D a) : BaseFC oa n cap b5 b8 kd ob mm capb D (a.put (some 64) v) := by
  obtain ⟨u, rfl⟩ := h
  exact ⟨fun i => if i = 64 then v else u i, by kernel_rfl⟩
theorem BaseFC.put65 {oa : Option Addr} {n cap b5 b8 : Nat} {kd : Int} {ob : Option Addr} {mm capb D : Nat} (a : Act) (v : Value) (h : BaseFC oa n cap b5 b8 kd ob mm capb D a) : BaseFC oa n cap b5 b8 kd ob mm capb D (a.put (some 65) v) := by
  obtain ⟨u, rfl⟩ := h
  exact ⟨fun i => if i = 65 then v else u i, by kernel_rfl⟩
theorem BaseFC.put66 {oa : Option Addr} {n cap b5 b8 : Nat} {kd : Int} {ob : Option Addr} {mm capb D : Nat} (a : Act) (v : Value) (h : BaseFC oa n cap b5 b8 kd ob mm capb D a) : BaseFC oa n cap b5 b8 kd ob mm capb D (a.put (some 66) v) := by
  obtain ⟨u, rfl⟩ := h
  exact ⟨fun i => if i = 66 then v else u i, by kernel_rfl⟩
theorem BaseFC.put67 {oa : Option Addr} {n cap b5 b8 : Nat} {kd : Int} {ob : Option Addr} {mm capb D : Nat} (a : Act) (v : Value) (h : BaseFC oa n cap b5 b8 kd ob mm capb D a) : BaseFC oa n cap b5 b8 kd ob mm capb D (a.put (some 67) v) := by
  obtain ⟨u, rfl⟩ := h
  exact ⟨fun i => if i = 67 then v else u i, by kernel_rfl⟩
theorem BaseFC.put6 {oa : Option Addr} {n cap b5 b8 : Nat} {kd : Int} {ob : Option Addr} {mm capb D : Nat} (a : Act) (v : Value) (h : BaseFC oa n cap b5 b8 kd ob mm capb D a) : BaseFC oa n cap b5 b8 kd ob mm capb D (a.put (some 6) v) := by
  obtain ⟨u, rfl⟩ := h
  exact ⟨fun i => if i = 6 then v else u i, by kernel_rfl⟩

set_option maxHeartbeats 8000000 in
theorem walk_FaultCounts (oa : Option Addr) (cap : Nat) (l : List Fa) (kd k : Int) (hl : l.length ≤ maxLen) (_ : (Lit.int .i64 kd).wf = true) (_ : (Lit.int .i64 k).wf = true) (w : World) (ha : FsAt w oa l) :
    Calls Try.prog 4 #[.slice oa l.length cap, .int .i64 kd, .int .i64 k] w fun e w' => e = .returned (.bool true) ∧ Below w.heap.size w w' := by
  have hl2 : (l.length : Int) ≤ 9223372036854775807 := by unfold maxLen at hl; omega
  have HLM := Lib.hid hl
  have hb0 : Below w.heap.size w (w.alloc (.cells #[.int .i64 k] 3)) := (Below.refl _ _).alloc (Nat.le_refl _) _
  have HB0 := Lib.hid hb0
  have hk0 := Blk.new w #[.int .i64 k] 3
  have K0 := Lib.hid hk0
  have HFS0 := Lib.hid (ha.below hb0)
  obtain ⟨n, hn⟩ : ∃ n, l.length = n := ⟨_, rfl⟩
  have HN := Lib.hid hn
  rw [hn] at hl2 ⊢
  clear hb0 hk0 ha hl hn
  refine calls_of_marks Try.func4 rfl ?_
  simp only [Try.ntmps4, List.size_toArray, List.length_cons, List.length_nil, Nat.reduceAdd, Nat.reduceSub, Array.replicate_succ, Array.replicate_zero, List.push_toArray, List.append_toArray, List.nil_append, List.cons_append]
  by_cases hbig : 100 < n
  · have hbz : (100 : Int) < (n : Int) := by omega
    go_wp2_with fail
    refine (fa_works _).mono ?_
    rintro r w2 ⟨rfl, hb2⟩
    have HB2 := Lib.hid (HB0.out.trans (hb2.mono HB0.out.size))
    clear hb2
    go_wp2_with fail
    exact leave_none rfl (results_tmp rfl _ _ _) ⟨rfl, HB2.out⟩
  · have hbz : ¬ (100 : Int) < (n : Int) := by omega
    have HAH := Lib.hid (fun w h => fa_ahead_it oa cap l (by have := HN.out; omega) w h)
    rw [HN.out] at HAH
    go_wp2_with fail
    refine (HAH.out _ HFS0.out).mono ?_
    rintro r w1 ⟨gf, lb, L, rfl, hb1, heg, hsrt, hst, hLl, hsq⟩
    have HB1 := Lib.hid hb1
    have HRA := Lib.hid (fun w h => rfa_ahead oa cap l L (by have := HN.out; omega) hsrt hst w h)
    have HLN : Hid (L.length = n) := hLl
    rw [HN.out] at HRA
    have HFS1 : Hid (FsAt (w1.alloc (.cells #[.slice none 0 0] 22)) oa l) := (HFS0.out.below hb1).below ((Below.refl _ _).alloc (Nat.le_refl _) _)
    clear hb1 HAH hsrt hst hLl
    go_wp2_with (rw [eql_fnilF])
    refine (HRA.out _ HFS1.out).mono ?_
    rintro r w2 ⟨ob, capb, rfl, hfr, hb2, hcpb⟩
    obtain ⟨m, hm⟩ : ∃ m, L.length = m := ⟨_, rfl⟩
    have HMM := Lib.hid hm
    rw [hm] at hcpb ⊢
    obtain ⟨b5, hb5⟩ : ∃ b, w.heap.size = b := ⟨_, rfl⟩
    obtain ⟨b8, hb8⟩ : ∃ b, w1.heap.size = b := ⟨_, rfl⟩
    have h8 : Boxed w2 b8 22 (.slice none 0 0) := by rw [← hb8]; exact boxed_afterF (Boxed.new w1 _ _) hb2
    have h12 : Below w1.heap.size w1 w2 := ((Below.refl _ w1).alloc (Nat.le_refl _) _).trans (hb2.mono (by simp))
    have hk1 : Blk w1 b5 #[.int .i64 k] 3 := by rw [← hb5]; exact K0.out.after HB1.out
    have hk2 : Blk w2 b5 #[.int .i64 k] 3 := hk1.after h12
    have hz1 : b5 < b8 := by rw [← hb8]; exact hk1.lt
    have hBW : Below w.heap.size w w2 := (HB0.out.trans (HB1.out.mono HB0.out.size)).trans (h12.mono (HB0.out.trans (HB1.out.mono HB0.out.size)).size)
    have hfs2 : FsAt w2 oa l := HFS1.out.below hb2
    have hc0 : CollF w2 b8 [] w2 := ⟨⟨_, h8, World.ownsRow_nil _ _ _ _, trivial⟩, OG.refl _ _⟩
    have hz2 : b8 < w2.heap.size := h8.lt
    have H8 := Lib.hid h8
    have HK2 := Lib.hid hk2
    have HBW := Lib.hid hBW
    have HFS2 := Lib.hid hfs2
    have HFR := Lib.hid hfr
    have HB5 := Lib.hid hb5
    have HB8 := Lib.hid hb8
    have HCB := Lib.hid hcpb
    rw [hb8] at h12
    clear hk1 hk2 hBW hfs2 hfr hb2 h8 HFS1 HFS0 HB1 HB0 K0 HRA hcpb
    go_wp2_with fail
    (try simp only [hb5, hb8])
    refine Code.wp_mono (Q := fun e a' W => (e = .normal ∨ e = .exit 0) ∧ ∃ (D : Nat) (xs : List Fa), w2.heap.size ≤ D ∧ W.heap[D]? = some (.deferred (some [])) ∧ CollF w2 b8 xs W ∧
        ((xs = L ∧ ¬ (0 ≤ k ∧ k < L.length)) ∨ ((xs.length : Int) = k ∧ xs.length < L.length ∧ xs = L.take xs.length)) ∧ a' = { tmps := #[Value.slice oa n cap, Value.int IntKind.i64 kd, Value.int IntKind.i64 k, undef, undef, Value.pointer (some { block := b5, off := 0 }), Value.bool false, Value.func (Fn.func gf) #[] lb, Value.pointer (some { block := b8, off := 0 }), Value.slice ob m capb, undef, Value.slice oa n cap, Value.int IntKind.i64 (n : Nat), Value.bool false, undef, Value.slice oa n cap, Value.func (Fn.func gf) #[] lb, Value.func (Fn.func gf) #[] lb, Value.bool false, Value.slice oa n cap, Value.slice ob m capb, Value.func (Fn.func gf) #[] lb, undef, undef, undef, undef, undef, undef, undef, undef, undef, undef, undef, undef, undef, undef, undef, undef, undef, undef, undef, undef, undef, undef, undef, undef, undef, undef, undef, undef, undef, undef, undef, undef, undef, undef, undef, undef, undef, undef, undef, undef, undef, undef, undef, undef, undef, undef], defers := [{ target := .collected D, args := #[] }] }) ?tail
      (wpIn_wide.1 (wpIn_rangeFunc_ownH (F := Fence.wide) (n := 9) rfl (by decide) (gf := gf) (lb := lb) rfl trivial heg hsq (fun h k => h.trans k) (belowK_b (by omega)) (by rw [hb8]; exact h12) (fun _ => rfl)
      (fun xs W => CollF w2 b8 xs W ∧ ∀ j, j < xs.length → (j : Int) ≠ k) (fun c xs W => c = .exit 0 ∧ ∃ ys x, xs = ys ++ [x] ∧ (ys.length : Int) = k ∧ CollF w2 b8 ys W)
      ?hI ?hIx ⟨hc0, fun j hj => absurd hj (Nat.not_lt_zero j)⟩
      (fun x a' W => ∃ g, a' = { tmps := #[Value.slice oa n cap, Value.int IntKind.i64 kd, Value.int IntKind.i64 k, undef, undef, Value.pointer (some { block := b5, off := 0 }), Value.bool false, Value.func (Fn.func gf) #[] lb, Value.pointer (some { block := b8, off := 0 }), Value.slice ob m capb, Value.pointer (some { block := g, off := 0 }), Value.slice oa n cap, Value.int IntKind.i64 (n : Nat), Value.bool false, undef, Value.slice oa n cap, Value.func (Fn.func gf) #[] lb, Value.func (Fn.func gf) #[] lb, Value.bool false, Value.slice oa n cap, Value.slice ob m capb, Value.func (Fn.func gf) #[] lb, Value.agg (encF x).toArray, undef, undef, undef, undef, undef, undef, undef, undef, undef, undef, undef, undef, undef, undef, undef, undef, undef, undef, undef, undef, undef, undef, undef, undef, undef, undef, undef, undef, undef, undef, undef, undef, undef, undef, undef, undef, undef, undef, undef, undef, undef, undef, undef, undef, undef], defers := [] } ∧ Blk W g (encF x).toArray 26) ?hAx ?assign ?body ?done ?stop))
    case hI =>
      intro xs X Y row h hg hr
      exact ⟨collF_from xs X Y row h.1 hg hr, h.2⟩
    case hIx =>
      rintro c xs X Y row ⟨hc, ys, x, h1, h2, h3⟩ hg hr
      exact ⟨hc, ys, x, h1, h2, collF_from ys X Y row h3 hg hr⟩
    case hAx =>
      rintro x a' _ X Y row ⟨g, h1, h2⟩ hg hr
      exact ⟨g, h1, blk_kept h2 hg (fun r e => (hr r e).2)⟩
    case assign =>
      rintro l' pre x W K ⟨hC, hne⟩ hK
      have HC := Lib.hid hC
      have HNE := Lib.hid hne
      clear hC hne
      gi_wp2_with (refine wpListIn_store_rowF rfl 26 (.tmp 10) (.tmp 22) rfl W.heap.size (encF x).toArray rfl rfl 26 (encF f0).toArray (Blk.new W (encF f0).toArray 26) size_fault rfl (encF_all _) ?_)
      have hb : Below W.heap.size W ((W.alloc (.cells (encF f0).toArray 26)).setRow W.heap.size (encF x).toArray) := below_put (Nat.le_refl _) _ ((Below.refl _ _).alloc (Nat.le_refl _) _)
      have hw1W : b8 < W.heap.size := HC.out.some.choose_spec.1.lt
      exact hK _ _ (keeps_of_below _ hb) (hb.mono (by omega)) ⟨HC.out.after hb, HNE.out⟩ ⟨W.heap.size, rfl, (Blk.new W (encF f0).toArray 26).put _⟩
    case body =>
      rintro l' pre x a' W _ _ ⟨hC, hne⟩ ⟨g, rfl, hblk⟩ hlen
      obtain ⟨u, hbu, hown, _⟩ := hC.some
      obtain ⟨x1, x2, x3, x4⟩ := x
      have hk4 : Blk W b5 #[.int .i64 k] 3 := by
        show W.heap[b5]? = _
        rw [hC.low.block b5 HK2.out.lt (fun e => by have := Option.some.inj e; omega)]
        exact HK2.out
      have c8 := hbu.cell
      have c5 : W.cell? ⟨b5, 0, none⟩ = some (.int .i64 k) := hk4.cell 0
      have f8 := hbu.frozen
      have HC := Lib.hid hC
      have HNE := Lib.hid hne
      have HBU := Lib.hid hbu
      have HO := Lib.hid hown
      have HBK : Hid (Blk W g #[.int .i64 x1, .int .i64 x2, .int .i64 x3, .int .i64 x4] 26) := hblk
      have hpl : pre.length ≤ 1000 := by have := HLN.out; omega
      obtain ⟨ad, cap', hu⟩ : ∃ ad cap, u = .slice ad pre.length cap := by
        rcases hown.2 with ⟨h, h0⟩ | ⟨g, cap, cur, h, _⟩
        · exact ⟨none, 0, by rw [h, h0]⟩
        · exact ⟨_, cap, h⟩
      subst hu
      clear hC hne hown hk4 hblk
      by_cases hk : (pre.length : Int) = k
      · clear hbu
        have hkb : ((pre.length : Int) == k) = true := by simpa using hk
        have HKE := Lib.hid hk
        clear hk
        gi_wp2_with fail
        exact ⟨KeepsFrom.refl _ _, rfl, pre, (x1, x2, x3, x4), rfl, HKE.out, HC.out⟩
      · have hkb : ((pre.length : Int) == k) = false := by simpa using hk
        obtain ⟨i0, hi, hz0, hz1', hz2'⟩ := info_partsF infoFault
        have hwW : w2.heap.size ≤ W.heap.size := HC.out.low.size
        gi_wp2_with (first
          | (refine wpListIn_load_rowF rfl 26 (.tmp 10) rfl g rfl 26 #[.int .i64 x1, .int .i64 x2, .int .i64 x3, .int .i64 x4] (0, 0) _ HBK.out Try.underlying26 rfl size_fault ?_)
          | (gi_at_builtin; refine wpListIn_append_own _ rfl _ _ 22 rfl w2.heap.size 26 i0 (.agg (encF f0).toArray) 4 32 Try.underlying22 hi hz0 hz1' hz2' rfl (by decide) _ _ _ rfl (HO.out.alloc _) ⟨W.heap.size, 0, none⟩ 1 1 [.int .i64 x1, .int .i64 x2, .int .i64 x3, .int .i64 x4] rfl rfl ?c1 ?c2 ?c3 ?c4 ?c5 ?_))
        case c1 => exact cells_newF W [.int .i64 x1, .int .i64 x2, .int .i64 x3, .int .i64 x4] _
        case c2 => intro u hu; simp at hu; rcases hu with rfl | rfl | rfl | rfl <;> rfl
        case c3 => unfold maxLen; omega
        case c4 => omega
        case c5 => simp; omega
        intro v' w3 hown1 hgrow _
        obtain ⟨g', cap'', rfl⟩ : ∃ g' cap'', v' = .slice (some ⟨g', 0, none⟩) (pre.length + 1) cap'' := by
          rcases hown1.2 with ⟨_, h0⟩ | ⟨g', cap'', cur, h, _⟩
          · omega
          · exact ⟨g', cap'', h⟩
        have hte : (22 : TypeId) ≠ 26 := by decide
        have hbW : b8 < W.heap.size := HBU.out.lt
        obtain ⟨hx1, hx2, hx0, hx4, hx5⟩ := Boxed.appended (n₀ := b8) HBU.out hte (ownsRow_monoF HO.out (by omega)) (by omega) (Nat.le_refl _) (ownsRow_monoF hown1 (by omega)) hgrow
        have hx3 := hown1.kept (grownBy_setCell' w3 b8 (.slice (some ⟨g', 0, none⟩) (pre.length + 1) cap'')) (.inr (hx1.not_row hte hown1).symm)
        have c8' := hx1.cell
        have f8' := hx1.frozen
        have e1 : (pre ++ [(x1, x2, x3, x4)]).length = pre.length + 1 := by simp
        have e2 : flatF (pre ++ [(x1, x2, x3, x4)]) = flatF pre ++ [.int .i64 x1, .int .i64 x2, .int .i64 x3, .int .i64 x4] := flatF_app pre _
        have hlow : OG b8 w2 (w3.setCell ⟨b8, 0, none⟩ (.slice (some ⟨g', 0, none⟩) (pre.length + 1) cap'')) :=
          ⟨hx5.os.trans HC.out.low.os, hx5.tape.trans HC.out.low.tape, hx5.output.trans HC.out.low.output, Nat.le_trans HC.out.low.size hx5.size, fun p hp hn => by
            have hpb : p ≠ b8 := fun e => hn (by rw [e])
            exact (Below.heap_setCell w3 ⟨b8, 0, none⟩ _ p (by show p ≠ b8; exact hpb)).trans ((hgrow.block p (by simp; omega) (fun e => by have := (HO.out.lt p e.symm).1; omega)).trans ((Below.heap_alloc _ _ _ (by omega)).trans (HC.out.low.block p hp hn)))⟩
        have hCn : CollF w2 b8 (pre ++ [(x1, x2, x3, x4)]) (w3.setCell ⟨b8, 0, none⟩ (.slice (some ⟨g', 0, none⟩) (pre.length + 1) cap'')) :=
          ⟨⟨_, hx2, by rw [e1, e2]; exact hx3, trivial⟩, hlow⟩
        have HCN := Lib.hid hCn
        have HX4 := Lib.hid hx4
        have HX5 := Lib.hid hx5
        clear hCn hlow hx0 hx1 hx2 hx3 hx4 hx5 hgrow
        gi_wp2_with fail
        refine ⟨HX4.out.from _, (by first | exact HX5.out | (rw [HB8.out]; exact HX5.out)), HCN.out, fun j hj => ?_⟩
        rw [e1] at hj
        by_cases hjl : j < pre.length
        · exact HNE.out j hjl
        · obtain rfl : j = pre.length := by omega
          exact hk
    case done =>
      rintro D xs W hD hS ⟨hC, hne⟩ hdef
      have hS' : xs = L := hS
      exact ⟨.inl rfl, D, xs, hD, hdef, hC, .inl ⟨hS', fun h => hne k.toNat (by rw [hS']; omega) (by omega)⟩, rfl⟩
    case stop =>
      rintro D c pre W hD ⟨j, hj, rfl⟩ ⟨rfl, ys, x, hys, hk, hC⟩ hdef
      have hl := congrArg List.length hys
      rw [List.length_take, List.length_append, List.length_singleton, Nat.min_eq_left hj] at hl
      have hy : ys = L.take ys.length := by
        have h := congrArg (List.take ys.length) hys
        rw [List.take_take, Nat.min_eq_left (by omega), List.take_left'] at h
        · exact h.symm
        · rfl
      refine wpIn_exit0F ?_
      exact ⟨.inr rfl, D, ys, hD, hdef, hC, .inr ⟨hk, by omega, hy⟩, rfl⟩
    case tail =>
      rintro e a' W ⟨he, D, xs, hD, hdef, hC, hxs, rfl⟩
      refine inBlock_bothF he ?_
      clear he heg hsq
      obtain ⟨u, hu, hur, _⟩ := hC.some
      obtain ⟨ua, uc, rfl, hfu⟩ := own_fs hur
      have hfk : Blk W b5 #[.int .i64 k] 3 := by
        show W.heap[b5]? = _
        rw [hC.low.block b5 HK2.out.lt (fun e => by have := Option.some.inj e; omega)]
        exact HK2.out
      have HFK := Lib.hid hfk
      have HBX := Lib.hid hu
      have HFL : Hid (FsAt W oa l) := hC.fs H8.out (fun k i => by simp) HFS2.out
      have HFU := Lib.hid hfu
      have HFW : Hid (FsAt W ob L) := hC.fs H8.out (fun k i => by simp) HFR.out
      have HDF := Lib.hid hdef
      have HLW : Hid (Below w.heap.size w W) := OG.below HBW.out hC.low (Nat.le_refl _) (by omega)
      have HDD : Hid (w.heap.size ≤ D) := by have := HBW.out.size; show _ ≤ _; omega
      have c5 := hfk.cell 0
      have c8 := hu.cell
      have HOL : Hid ((others kd l).length ≤ 1000000) := by have h1 := others_le kd l; have h2 := HN.out; show _ ≤ _; omega
      have HCT0 : Hid (∀ w', FsAt w' oa l → Calls Try.prog 15 #[.slice oa n cap, .int .i64 kd, .int .i64 k] w' fun e w2 => e = .returned (.int .i64 (cntF kd k l : Nat)) ∧ Below w'.heap.size w' w2) := fun w' h => by
        have h1 := fa_count oa cap l HLM.out kd k w' h
        rwa [HN.out] at h1
      have HRC0 : Hid (∀ w', FsAt w' oa l → Calls Try.prog 16 #[.slice oa n cap, .int .i64 kd, .int .i64 k] w' fun e w2 => e = .returned (.int .i64 (cntF kd k l : Nat)) ∧ w' = w2) := fun w' h => by
        have h1 := rfa_count oa cap l HLM.out kd k w' h
        rwa [HN.out] at h1
      have HWO : Hid (∀ w', FsAt w' oa l → Calls Try.prog 17 #[.slice oa n cap, .int .i64 kd] w' (GivesF w' (others kd l))) := fun w' h => by
        have h1 := fa_without oa cap l (by have := HN.out; omega) kd w' h
        rwa [HN.out] at h1
      have HRW : Hid (∀ w', FsAt w' oa l → Calls Try.prog 18 #[.slice oa n cap, .int .i64 kd] w' (GivesF w' (others kd l))) := fun w' h => by
        have h1 := rfa_without oa cap l (by have := HN.out; omega) kd w' h
        rwa [HN.out] at h1
      obtain ⟨c, hc⟩ : ∃ c, cntF kd k l = c := ⟨_, rfl⟩
      have HCT : Hid (∀ w', FsAt w' oa l → Calls Try.prog 15 #[.slice oa n cap, .int .i64 kd, .int .i64 k] w' fun e w2 => e = .returned (.int .i64 (c : Nat)) ∧ Below w'.heap.size w' w2) := fun w' h => by rw [← hc]; exact HCT0.out w' h
      have HRC : Hid (∀ w', FsAt w' oa l → Calls Try.prog 16 #[.slice oa n cap, .int .i64 kd, .int .i64 k] w' fun e w2 => e = .returned (.int .i64 (c : Nat)) ∧ w' = w2) := fun w' h => by rw [← hc]; exact HRC0.out w' h
      have HXS := Lib.hid hxs
      have hL100 : L.length ≤ 100 := by have := HLN.out; omega
      clear hC hdef hur hu hxs hfk hfu hc0 h12 hc HCT0 HRC0
      by_cases hA : 0 ≤ k ∧ k < L.length
      · obtain ⟨mm, hmm⟩ : ∃ mm : Nat, k.toNat = mm := ⟨_, rfl⟩
        have hkm : (mm : Int) = k := by omega
        have hxl : xs.length = mm ∧ xs = L.take mm := by
          rcases HXS.out with ⟨_, hx⟩ | ⟨hx, hx2, hx3⟩
          · exact absurd hA hx
          · have h : xs.length = mm := by omega
            rw [h] at hx3
            exact ⟨h, hx3⟩
        have HFV : Hid (FsAt W ob xs) := by show FsAt _ _ _; rw [hxl.2]; exact HFW.out.first mm
        have HSM : Hid (∀ w', FsAt w' ua xs → FsAt w' ob xs → Calls Try.prog 14 #[.slice ua mm uc, .slice ob mm capb] w' fun e w2 => e = .returned (.bool true) ∧ Below w'.heap.size w' w2) := fun w' h1 h2 => by
          have h := fa_same ua ob uc capb xs (by omega) w' h1 h2
          rwa [hxl.1] at h
        have HBX : Hid (Boxed W b8 22 (.slice ua mm uc)) := by show Boxed _ _ _ _; rw [← hxl.1]; exact HBX.out
        have k1 : decide (0 ≤ k) = true := decide_eq_true hA.1
        have k2 : decide (k < (m : Int)) = true := decide_eq_true (by omega)
        have k1z : 0 ≤ k := hA.1
        have k2z : k < (m : Int) := by omega
        have k3z : k ≤ (capb : Int) := by have := HCB.out; omega
        rw [hxl.1] at c8
        clear hxl hkm hA HXS
        have HC0 : Hid (CFc w oa l ua uc ob mm b5 b8 k xs D W) := ⟨HFK.out.lt, HFK.out.cell 0, HBX.out.lt, HBX.out.cell, HFL.out, HFU.out, HFV.out, HDF.out, HLW.out⟩
        clear HFL HFU HFV
        go_wp2_with fail
        rename_i K0 hK0
        refine wp_region_list3 (SV2F (vsFC oa n cap kd k ua uc ob mm capb c) (fun j => if j = 17 then [59] else if j = 20 then [62] else [])) (BaseFC oa n cap b5 b8 kd ob mm capb D) (CFc w oa l ua uc ob mm b5 b8 k xs D) (Goes) (RV (vsFC oa n cap kd k ua uc ob mm capb c) (SpW (others kd l))) rfl (by kernel_rfl) (RV.ext2F SpW.ext) ?_ (HC0.out.call (Below.refl _ _).drew) (BaseFC.of _ (by kernel_rfl)) ?_ ?_
        · exact ⟨BaseFC.put42, BaseFC.put43, BaseFC.put44, BaseFC.put45, BaseFC.put46, BaseFC.put47, BaseFC.put48, BaseFC.put49, BaseFC.put50, BaseFC.put51, BaseFC.put52, BaseFC.put53, BaseFC.put54, BaseFC.put55, BaseFC.put56, BaseFC.put57, BaseFC.put58, BaseFC.put59, BaseFC.put60, BaseFC.put61, BaseFC.put62, BaseFC.put63, BaseFC.put64, BaseFC.put65, BaseFC.put66, BaseFC.put67, BaseFC.put6, trivial⟩
        · refine ⟨?_, ?_, ?_, ?_, ?_, ?_, ?_, ?_, ?_, ?_, ?_, ?_, ?_, ?_, ?_, ?_, ?_, ?_, ?_, ?_, ?_, ?_, ?_, ?_, ?_, ?_, ?_, trivial⟩
          all_goals
            intro a w' hC hB hR
            obtain ⟨u, rfl⟩ := hB
            have HC := Lib.hid hC
            clear hC
            clear hK0
          · have hc : w'.cell? ⟨b8, 0, none⟩ = some (.slice ua mm uc) := HC.out.sc
            clear hR
            refine if_yes (by kernel_rfl) ?_
            unfold Oper.wp
            go_simp
            exact ⟨.slice ua mm uc, rfl, HC.out, Below.refl _ _, rfl⟩
          · clear hR
            refine if_yes (by kernel_rfl) ?_
            unfold Oper.wp
            go_simp
            exact ⟨.slice ob mm capb, rfl, HC.out, Below.refl _ _, rfl⟩
          · have h42 : u 42 = .slice ua mm uc := hR ⟨0, .data⟩ (by simp) rfl
            have h43 : u 43 = .slice ob mm capb := hR ⟨1, .data⟩ (by simp) rfl
            clear hR
            simp only [h42, h43]
            clear h42 h43
            refine if_yes (by kernel_rfl) ?_
            unfold Oper.wp
            go_simp
            refine (HSM.out _ HC.out.fu HC.out.fv).mono ?_
            rintro r w3 ⟨rfl, hb3⟩
            exact ⟨.bool true, rfl, HC.out.call hb3, hb3, rfl⟩
          · have h44 : u 44 = .bool true := hR ⟨2, .data⟩ (by simp) rfl
            clear hR
            simp only [h44]
            clear h44
            refine if_yes (by kernel_rfl) ?_
            unfold Oper.wp
            go_simp
            exact ⟨.bool true, rfl, HC.out, Below.refl _ _, rfl⟩
          · have g45 : u 45 = .bool true := hR ⟨3, .guard⟩ (by simp) rfl
            clear hR
            simp only [g45]
            clear g45
            refine if_yes (by kernel_rfl) ?_
            unfold Oper.wp
            go_simp
            exact ⟨.slice oa n cap, rfl, HC.out, Below.refl _ _, rfl⟩
          · have g45 : u 45 = .bool true := hR ⟨3, .guard⟩ (by simp) rfl
            clear hR
            simp only [g45]
            clear g45
            refine if_yes (by kernel_rfl) ?_
            unfold Oper.wp
            go_simp
            exact ⟨.int .i64 kd, rfl, HC.out, Below.refl _ _, rfl⟩
          · have g45 : u 45 = .bool true := hR ⟨3, .guard⟩ (by simp) rfl
            have hc : w'.cell? ⟨b5, 0, none⟩ = some (.int .i64 k) := HC.out.kc
            clear hR
            simp only [g45]
            clear g45
            refine if_yes (by kernel_rfl) ?_
            unfold Oper.wp
            go_simp
            exact ⟨.int .i64 k, rfl, HC.out, Below.refl _ _, rfl⟩
          · have g45 : u 45 = .bool true := hR ⟨3, .guard⟩ (by simp) rfl
            have h46 : u 46 = .slice oa n cap := hR ⟨4, .data⟩ (by simp) rfl
            have h47 : u 47 = .int .i64 kd := hR ⟨5, .data⟩ (by simp) rfl
            have h48 : u 48 = .int .i64 k := hR ⟨6, .data⟩ (by simp) rfl
            clear hR
            simp only [g45, h46, h47, h48]
            clear g45 h46 h47 h48
            refine if_yes (by kernel_rfl) ?_
            unfold Oper.wp
            go_simp
            refine (HCT.out _ HC.out.fs).mono ?_
            rintro r w3 ⟨rfl, hb3⟩
            exact ⟨.int .i64 (c : Nat), rfl, HC.out.call hb3, hb3, rfl⟩
          · have g45 : u 45 = .bool true := hR ⟨3, .guard⟩ (by simp) rfl
            clear hR
            simp only [g45]
            clear g45
            refine if_yes (by kernel_rfl) ?_
            unfold Oper.wp
            go_simp
            exact ⟨.slice oa n cap, rfl, HC.out, Below.refl _ _, rfl⟩
          · have g45 : u 45 = .bool true := hR ⟨3, .guard⟩ (by simp) rfl
            clear hR
            simp only [g45]
            clear g45
            refine if_yes (by kernel_rfl) ?_
            unfold Oper.wp
            go_simp
            exact ⟨.int .i64 kd, rfl, HC.out, Below.refl _ _, rfl⟩
          · have g45 : u 45 = .bool true := hR ⟨3, .guard⟩ (by simp) rfl
            have hc : w'.cell? ⟨b5, 0, none⟩ = some (.int .i64 k) := HC.out.kc
            clear hR
            simp only [g45]
            clear g45
            refine if_yes (by kernel_rfl) ?_
            unfold Oper.wp
            go_simp
            exact ⟨.int .i64 k, rfl, HC.out, Below.refl _ _, rfl⟩
          · have g45 : u 45 = .bool true := hR ⟨3, .guard⟩ (by simp) rfl
            have h50 : u 50 = .slice oa n cap := hR ⟨8, .data⟩ (by simp) rfl
            have h51 : u 51 = .int .i64 kd := hR ⟨9, .data⟩ (by simp) rfl
            have h52 : u 52 = .int .i64 k := hR ⟨10, .data⟩ (by simp) rfl
            clear hR
            simp only [g45, h50, h51, h52]
            clear g45 h50 h51 h52
            refine if_yes (by kernel_rfl) ?_
            unfold Oper.wp
            go_simp
            refine (HRC.out _ HC.out.fs).mono ?_
            rintro r w3 ⟨rfl, rfl⟩
            exact ⟨.int .i64 (c : Nat), rfl, HC.out, Below.refl _ _, rfl⟩
          · have g45 : u 45 = .bool true := hR ⟨3, .guard⟩ (by simp) rfl
            have h49 : u 49 = .int .i64 (c : Nat) := hR ⟨7, .data⟩ (by simp) rfl
            have h53 : u 53 = .int .i64 (c : Nat) := hR ⟨11, .data⟩ (by simp) rfl
            clear hR
            simp only [g45, h49, h53]
            clear g45 h49 h53
            refine if_yes (by kernel_rfl) ?_
            unfold Oper.wp
            go_simp
            exact ⟨.bool true, rfl, HC.out, Below.refl _ _, rfl⟩
          · have h45 : u 45 = .bool true := hR ⟨3, .data⟩ (by simp) rfl
            have h54 : u 54 = .bool true := hR ⟨12, .data⟩ (by simp) rfl
            clear hR
            simp only [h45, h54]
            clear h45 h54
            refine if_yes (by kernel_rfl) ?_
            unfold Oper.wp
            go_simp
            exact ⟨.bool true, rfl, HC.out, Below.refl _ _, rfl⟩
          · have h55 : u 55 = .bool true := hR ⟨13, .data⟩ (by simp) rfl
            clear hR
            simp only [h55]
            clear h55
            refine if_yes (by kernel_rfl) ?_
            unfold Oper.wp
            go_simp
            exact ⟨.bool true, rfl, HC.out, Below.refl _ _, rfl⟩
          · have g56 : u 56 = .bool true := hR ⟨14, .guard⟩ (by simp) rfl
            clear hR
            simp only [g56]
            clear g56
            refine if_yes (by kernel_rfl) ?_
            unfold Oper.wp
            go_simp
            exact ⟨.slice oa n cap, rfl, HC.out, Below.refl _ _, rfl⟩
          · have g56 : u 56 = .bool true := hR ⟨14, .guard⟩ (by simp) rfl
            clear hR
            simp only [g56]
            clear g56
            refine if_yes (by kernel_rfl) ?_
            unfold Oper.wp
            go_simp
            exact ⟨.int .i64 kd, rfl, HC.out, Below.refl _ _, rfl⟩
          · have g56 : u 56 = .bool true := hR ⟨14, .guard⟩ (by simp) rfl
            have h57 : u 57 = .slice oa n cap := hR ⟨15, .data⟩ (by simp) rfl
            have h58 : u 58 = .int .i64 kd := hR ⟨16, .data⟩ (by simp) rfl
            clear hR
            simp only [g56, h57, h58]
            clear g56 h57 h58
            refine if_yes (by kernel_rfl) ?_
            unfold Oper.wp
            go_simp
            refine (HWO.out _ HC.out.fs).mono ?_
            rintro r w3 ⟨oa2, cap2, rfl, hf2, hb3⟩
            exact ⟨.slice oa2 (others kd l).length cap2, rfl, HC.out.call hb3, hb3, ⟨fun _ => ⟨oa2, cap2, rfl, hf2⟩, fun h => absurd h (by decide)⟩⟩
          · have g56 : u 56 = .bool true := hR ⟨14, .guard⟩ (by simp) rfl
            clear hR
            simp only [g56]
            clear g56
            refine if_yes (by kernel_rfl) ?_
            unfold Oper.wp
            go_simp
            exact ⟨.slice oa n cap, rfl, HC.out, Below.refl _ _, rfl⟩
          · have g56 : u 56 = .bool true := hR ⟨14, .guard⟩ (by simp) rfl
            clear hR
            simp only [g56]
            clear g56
            refine if_yes (by kernel_rfl) ?_
            unfold Oper.wp
            go_simp
            exact ⟨.int .i64 kd, rfl, HC.out, Below.refl _ _, rfl⟩
          · have g56 : u 56 = .bool true := hR ⟨14, .guard⟩ (by simp) rfl
            have h60 : u 60 = .slice oa n cap := hR ⟨18, .data⟩ (by simp) rfl
            have h61 : u 61 = .int .i64 kd := hR ⟨19, .data⟩ (by simp) rfl
            clear hR
            simp only [g56, h60, h61]
            clear g56 h60 h61
            refine if_yes (by kernel_rfl) ?_
            unfold Oper.wp
            go_simp
            refine (HRW.out _ HC.out.fs).mono ?_
            rintro r w3 ⟨oa2, cap2, rfl, hf2, hb3⟩
            exact ⟨.slice oa2 (others kd l).length cap2, rfl, HC.out.call hb3, hb3, ⟨fun h => absurd h (by decide), fun _ => ⟨oa2, cap2, rfl, hf2⟩⟩⟩
          · have g56 : u 56 = .bool true := hR ⟨14, .guard⟩ (by simp) rfl
            obtain ⟨oa2, cap2, hg, hz⟩ := (hR ⟨17, .data⟩ (by simp) rfl).1 rfl
            have hg : u 59 = .slice oa2 (others kd l).length cap2 := hg
            obtain ⟨oa3, cap3, hg3, hz3⟩ := (hR ⟨20, .data⟩ (by simp) rfl).2 rfl
            have hg3 : u 62 = .slice oa3 (others kd l).length cap3 := hg3
            clear hR
            simp only [g56]
            clear g56
            refine if_yes (by kernel_rfl) ?_
            simp only [hg, hg3]
            unfold Oper.wp
            go_simp
            refine (fa_same oa2 oa3 cap2 cap3 (others kd l) HOL.out _ hz hz3).mono ?_
            rintro r w3 ⟨rfl, hb3⟩
            exact ⟨.bool true, rfl, HC.out.call hb3, hb3, rfl⟩
          · have h56 : u 56 = .bool true := hR ⟨14, .data⟩ (by simp) rfl
            have h63 : u 63 = .bool true := hR ⟨21, .data⟩ (by simp) rfl
            clear hR
            simp only [h56, h63]
            clear h56 h63
            refine if_yes (by kernel_rfl) ?_
            unfold Oper.wp
            go_simp
            exact ⟨.bool true, rfl, HC.out, Below.refl _ _, rfl⟩
          · have h64 : u 64 = .bool true := hR ⟨22, .data⟩ (by simp) rfl
            clear hR
            simp only [h64]
            clear h64
            refine if_yes (by kernel_rfl) ?_
            unfold Oper.wp
            go_simp
            exact ⟨.bool true, rfl, HC.out, Below.refl _ _, rfl⟩
          · have g65 : u 65 = .bool true := hR ⟨23, .guard⟩ (by simp) rfl
            clear hR
            simp only [g65]
            clear g65
            refine if_yes (by kernel_rfl) ?_
            unfold Oper.wp
            go_simp
            refine (fa_works _).mono ?_
            rintro r w3 ⟨rfl, hb3⟩
            exact ⟨.bool true, rfl, HC.out.call hb3, hb3, rfl⟩
          · have h65 : u 65 = .bool true := hR ⟨23, .data⟩ (by simp) rfl
            have h66 : u 66 = .bool true := hR ⟨24, .data⟩ (by simp) rfl
            clear hR
            simp only [h65, h66]
            clear h65 h66
            refine if_yes (by kernel_rfl) ?_
            unfold Oper.wp
            go_simp
            exact ⟨.bool true, rfl, HC.out, Below.refl _ _, rfl⟩
          · have h67 : u 67 = .bool true := hR ⟨25, .data⟩ (by simp) rfl
            clear hR
            simp only [h67]
            clear h67
            refine if_yes (by kernel_rfl) ?_
            unfold Oper.wp
            go_simp
            exact ⟨.bool true, rfl, HC.out, Below.refl _ _, rfl⟩
        · intro a' w' hC hB hR
          have h6 := hR 26 (by decide)
          obtain ⟨u, rfl⟩ := hB
          have h6 : u 6 = .bool true := h6
          simp only [h6]
          have HDZ := Lib.hid hC.df
          have HM : Hid (Below w.heap.size w (w'.putObj D (.deferred none))) := below_mark hC.low HDD.out hC.df
          clear hR h6
          go_wp2_with fail
          exact leave_one rfl HDZ.out (results_tmp rfl _ _ _) ⟨rfl, by rw [← HB5.out]; exact HM.out⟩
      · have hxl : xs = L := by
          rcases HXS.out with ⟨hx, _⟩ | ⟨hx, hx2, hx3⟩
          · exact hx
          · exact absurd ⟨by omega, by omega⟩ hA
        obtain ⟨mm, hmm⟩ : ∃ mm, mm = m := ⟨_, rfl⟩
        subst hmm
        have hxm : xs.length = mm := by rw [hxl]; exact HMM.out
        have HFV : Hid (FsAt W ob xs) := by show FsAt _ _ _; rw [hxl]; exact HFW.out
        have HSM : Hid (∀ w', FsAt w' ua xs → FsAt w' ob xs → Calls Try.prog 14 #[.slice ua mm uc, .slice ob mm capb] w' fun e w2 => e = .returned (.bool true) ∧ Below w'.heap.size w' w2) := fun w' h1 h2 => by
          have h := fa_same ua ob uc capb xs (by rw [hxl]; omega) w' h1 h2
          rwa [hxm] at h
        have HBX : Hid (Boxed W b8 22 (.slice ua mm uc)) := by show Boxed _ _ _ _; rw [← hxm]; exact HBX.out
        rw [hxm] at c8
        have hA2 : ¬ (0 ≤ k ∧ k < (mm : Int)) := fun h => hA (by rw [HMM.out]; exact h)
        clear hxl hxm hA HXS
        by_cases k1z : 0 ≤ k
        · have k1 : decide (0 ≤ k) = true := decide_eq_true k1z
          have k2z : ¬ k < (mm : Int) := fun h => hA2 ⟨k1z, h⟩
          have k2 : decide (k < (mm : Int)) = false := decide_eq_false k2z
          clear hA2
          have HC0 : Hid (CFc w oa l ua uc ob mm b5 b8 k xs D W) := ⟨HFK.out.lt, HFK.out.cell 0, HBX.out.lt, HBX.out.cell, HFL.out, HFU.out, HFV.out, HDF.out, HLW.out⟩
          clear HFL HFU HFV
          go_wp2_with fail
          rename_i K0 hK0
          refine wp_region_list3 (SV2F (vsFC oa n cap kd k ua uc ob mm capb c) (fun j => if j = 17 then [59] else if j = 20 then [62] else [])) (BaseFC oa n cap b5 b8 kd ob mm capb D) (CFc w oa l ua uc ob mm b5 b8 k xs D) (Goes) (RV (vsFC oa n cap kd k ua uc ob mm capb c) (SpW (others kd l))) rfl (by kernel_rfl) (RV.ext2F SpW.ext) ?_ (HC0.out.call (Below.refl _ _).drew) (BaseFC.of _ (by kernel_rfl)) ?_ ?_
          · exact ⟨BaseFC.put42, BaseFC.put43, BaseFC.put44, BaseFC.put45, BaseFC.put46, BaseFC.put47, BaseFC.put48, BaseFC.put49, BaseFC.put50, BaseFC.put51, BaseFC.put52, BaseFC.put53, BaseFC.put54, BaseFC.put55, BaseFC.put56, BaseFC.put57, BaseFC.put58, BaseFC.put59, BaseFC.put60, BaseFC.put61, BaseFC.put62, BaseFC.put63, BaseFC.put64, BaseFC.put65, BaseFC.put66, BaseFC.put67, BaseFC.put6, trivial⟩
          · refine ⟨?_, ?_, ?_, ?_, ?_, ?_, ?_, ?_, ?_, ?_, ?_, ?_, ?_, ?_, ?_, ?_, ?_, ?_, ?_, ?_, ?_, ?_, ?_, ?_, ?_, ?_, ?_, trivial⟩
            all_goals
              intro a w' hC hB hR
              obtain ⟨u, rfl⟩ := hB
              have HC := Lib.hid hC
              clear hC
              clear hK0
            · have hc : w'.cell? ⟨b8, 0, none⟩ = some (.slice ua mm uc) := HC.out.sc
              clear hR
              refine if_yes (by kernel_rfl) ?_
              unfold Oper.wp
              go_simp
              exact ⟨.slice ua mm uc, rfl, HC.out, Below.refl _ _, rfl⟩
            · clear hR
              refine if_yes (by kernel_rfl) ?_
              unfold Oper.wp
              go_simp
              exact ⟨.slice ob mm capb, rfl, HC.out, Below.refl _ _, rfl⟩
            · have h42 : u 42 = .slice ua mm uc := hR ⟨0, .data⟩ (by simp) rfl
              have h43 : u 43 = .slice ob mm capb := hR ⟨1, .data⟩ (by simp) rfl
              clear hR
              simp only [h42, h43]
              clear h42 h43
              refine if_yes (by kernel_rfl) ?_
              unfold Oper.wp
              go_simp
              refine (HSM.out _ HC.out.fu HC.out.fv).mono ?_
              rintro r w3 ⟨rfl, hb3⟩
              exact ⟨.bool true, rfl, HC.out.call hb3, hb3, rfl⟩
            · have h44 : u 44 = .bool true := hR ⟨2, .data⟩ (by simp) rfl
              clear hR
              simp only [h44]
              clear h44
              refine if_yes (by kernel_rfl) ?_
              unfold Oper.wp
              go_simp
              exact ⟨.bool true, rfl, HC.out, Below.refl _ _, rfl⟩
            · have g45 : u 45 = .bool true := hR ⟨3, .guard⟩ (by simp) rfl
              clear hR
              simp only [g45]
              clear g45
              refine if_yes (by kernel_rfl) ?_
              unfold Oper.wp
              go_simp
              exact ⟨.slice oa n cap, rfl, HC.out, Below.refl _ _, rfl⟩
            · have g45 : u 45 = .bool true := hR ⟨3, .guard⟩ (by simp) rfl
              clear hR
              simp only [g45]
              clear g45
              refine if_yes (by kernel_rfl) ?_
              unfold Oper.wp
              go_simp
              exact ⟨.int .i64 kd, rfl, HC.out, Below.refl _ _, rfl⟩
            · have g45 : u 45 = .bool true := hR ⟨3, .guard⟩ (by simp) rfl
              have hc : w'.cell? ⟨b5, 0, none⟩ = some (.int .i64 k) := HC.out.kc
              clear hR
              simp only [g45]
              clear g45
              refine if_yes (by kernel_rfl) ?_
              unfold Oper.wp
              go_simp
              exact ⟨.int .i64 k, rfl, HC.out, Below.refl _ _, rfl⟩
            · have g45 : u 45 = .bool true := hR ⟨3, .guard⟩ (by simp) rfl
              have h46 : u 46 = .slice oa n cap := hR ⟨4, .data⟩ (by simp) rfl
              have h47 : u 47 = .int .i64 kd := hR ⟨5, .data⟩ (by simp) rfl
              have h48 : u 48 = .int .i64 k := hR ⟨6, .data⟩ (by simp) rfl
              clear hR
              simp only [g45, h46, h47, h48]
              clear g45 h46 h47 h48
              refine if_yes (by kernel_rfl) ?_
              unfold Oper.wp
              go_simp
              refine (HCT.out _ HC.out.fs).mono ?_
              rintro r w3 ⟨rfl, hb3⟩
              exact ⟨.int .i64 (c : Nat), rfl, HC.out.call hb3, hb3, rfl⟩
            · have g45 : u 45 = .bool true := hR ⟨3, .guard⟩ (by simp) rfl
              clear hR
              simp only [g45]
              clear g45
              refine if_yes (by kernel_rfl) ?_
              unfold Oper.wp
              go_simp
              exact ⟨.slice oa n cap, rfl, HC.out, Below.refl _ _, rfl⟩
            · have g45 : u 45 = .bool true := hR ⟨3, .guard⟩ (by simp) rfl
              clear hR
              simp only [g45]
              clear g45
              refine if_yes (by kernel_rfl) ?_
              unfold Oper.wp
              go_simp
              exact ⟨.int .i64 kd, rfl, HC.out, Below.refl _ _, rfl⟩
            · have g45 : u 45 = .bool true := hR ⟨3, .guard⟩ (by simp) rfl
              have hc : w'.cell? ⟨b5, 0, none⟩ = some (.int .i64 k) := HC.out.kc
              clear hR
              simp only [g45]
              clear g45
              refine if_yes (by kernel_rfl) ?_
              unfold Oper.wp
              go_simp
              exact ⟨.int .i64 k, rfl, HC.out, Below.refl _ _, rfl⟩
            · have g45 : u 45 = .bool true := hR ⟨3, .guard⟩ (by simp) rfl
              have h50 : u 50 = .slice oa n cap := hR ⟨8, .data⟩ (by simp) rfl
              have h51 : u 51 = .int .i64 kd := hR ⟨9, .data⟩ (by simp) rfl
              have h52 : u 52 = .int .i64 k := hR ⟨10, .data⟩ (by simp) rfl
              clear hR
              simp only [g45, h50, h51, h52]
              clear g45 h50 h51 h52
              refine if_yes (by kernel_rfl) ?_
              unfold Oper.wp
              go_simp
              refine (HRC.out _ HC.out.fs).mono ?_
              rintro r w3 ⟨rfl, rfl⟩
              exact ⟨.int .i64 (c : Nat), rfl, HC.out, Below.refl _ _, rfl⟩
            · have g45 : u 45 = .bool true := hR ⟨3, .guard⟩ (by simp) rfl
              have h49 : u 49 = .int .i64 (c : Nat) := hR ⟨7, .data⟩ (by simp) rfl
              have h53 : u 53 = .int .i64 (c : Nat) := hR ⟨11, .data⟩ (by simp) rfl
              clear hR
              simp only [g45, h49, h53]
              clear g45 h49 h53
              refine if_yes (by kernel_rfl) ?_
              unfold Oper.wp
              go_simp
              exact ⟨.bool true, rfl, HC.out, Below.refl _ _, rfl⟩
            · have h45 : u 45 = .bool true := hR ⟨3, .data⟩ (by simp) rfl
              have h54 : u 54 = .bool true := hR ⟨12, .data⟩ (by simp) rfl
              clear hR
              simp only [h45, h54]
              clear h45 h54
              refine if_yes (by kernel_rfl) ?_
              unfold Oper.wp
              go_simp
              exact ⟨.bool true, rfl, HC.out, Below.refl _ _, rfl⟩
            · have h55 : u 55 = .bool true := hR ⟨13, .data⟩ (by simp) rfl
              clear hR
              simp only [h55]
              clear h55
              refine if_yes (by kernel_rfl) ?_
              unfold Oper.wp
              go_simp
              exact ⟨.bool true, rfl, HC.out, Below.refl _ _, rfl⟩
            · have g56 : u 56 = .bool true := hR ⟨14, .guard⟩ (by simp) rfl
              clear hR
              simp only [g56]
              clear g56
              refine if_yes (by kernel_rfl) ?_
              unfold Oper.wp
              go_simp
              exact ⟨.slice oa n cap, rfl, HC.out, Below.refl _ _, rfl⟩
            · have g56 : u 56 = .bool true := hR ⟨14, .guard⟩ (by simp) rfl
              clear hR
              simp only [g56]
              clear g56
              refine if_yes (by kernel_rfl) ?_
              unfold Oper.wp
              go_simp
              exact ⟨.int .i64 kd, rfl, HC.out, Below.refl _ _, rfl⟩
            · have g56 : u 56 = .bool true := hR ⟨14, .guard⟩ (by simp) rfl
              have h57 : u 57 = .slice oa n cap := hR ⟨15, .data⟩ (by simp) rfl
              have h58 : u 58 = .int .i64 kd := hR ⟨16, .data⟩ (by simp) rfl
              clear hR
              simp only [g56, h57, h58]
              clear g56 h57 h58
              refine if_yes (by kernel_rfl) ?_
              unfold Oper.wp
              go_simp
              refine (HWO.out _ HC.out.fs).mono ?_
              rintro r w3 ⟨oa2, cap2, rfl, hf2, hb3⟩
              exact ⟨.slice oa2 (others kd l).length cap2, rfl, HC.out.call hb3, hb3, ⟨fun _ => ⟨oa2, cap2, rfl, hf2⟩, fun h => absurd h (by decide)⟩⟩
            · have g56 : u 56 = .bool true := hR ⟨14, .guard⟩ (by simp) rfl
              clear hR
              simp only [g56]
              clear g56
              refine if_yes (by kernel_rfl) ?_
              unfold Oper.wp
              go_simp
              exact ⟨.slice oa n cap, rfl, HC.out, Below.refl _ _, rfl⟩
            · have g56 : u 56 = .bool true := hR ⟨14, .guard⟩ (by simp) rfl
              clear hR
              simp only [g56]
              clear g56
              refine if_yes (by kernel_rfl) ?_
              unfold Oper.wp
              go_simp
              exact ⟨.int .i64 kd, rfl, HC.out, Below.refl _ _, rfl⟩
            · have g56 : u 56 = .bool true := hR ⟨14, .guard⟩ (by simp) rfl
              have h60 : u 60 = .slice oa n cap := hR ⟨18, .data⟩ (by simp) rfl
              have h61 : u 61 = .int .i64 kd := hR ⟨19, .data⟩ (by simp) rfl
              clear hR
              simp only [g56, h60, h61]
              clear g56 h60 h61
              refine if_yes (by kernel_rfl) ?_
              unfold Oper.wp
              go_simp
              refine (HRW.out _ HC.out.fs).mono ?_
              rintro r w3 ⟨oa2, cap2, rfl, hf2, hb3⟩
              exact ⟨.slice oa2 (others kd l).length cap2, rfl, HC.out.call hb3, hb3, ⟨fun h => absurd h (by decide), fun _ => ⟨oa2, cap2, rfl, hf2⟩⟩⟩
            · have g56 : u 56 = .bool true := hR ⟨14, .guard⟩ (by simp) rfl
              obtain ⟨oa2, cap2, hg, hz⟩ := (hR ⟨17, .data⟩ (by simp) rfl).1 rfl
              have hg : u 59 = .slice oa2 (others kd l).length cap2 := hg
              obtain ⟨oa3, cap3, hg3, hz3⟩ := (hR ⟨20, .data⟩ (by simp) rfl).2 rfl
              have hg3 : u 62 = .slice oa3 (others kd l).length cap3 := hg3
              clear hR
              simp only [g56]
              clear g56
              refine if_yes (by kernel_rfl) ?_
              simp only [hg, hg3]
              unfold Oper.wp
              go_simp
              refine (fa_same oa2 oa3 cap2 cap3 (others kd l) HOL.out _ hz hz3).mono ?_
              rintro r w3 ⟨rfl, hb3⟩
              exact ⟨.bool true, rfl, HC.out.call hb3, hb3, rfl⟩
            · have h56 : u 56 = .bool true := hR ⟨14, .data⟩ (by simp) rfl
              have h63 : u 63 = .bool true := hR ⟨21, .data⟩ (by simp) rfl
              clear hR
              simp only [h56, h63]
              clear h56 h63
              refine if_yes (by kernel_rfl) ?_
              unfold Oper.wp
              go_simp
              exact ⟨.bool true, rfl, HC.out, Below.refl _ _, rfl⟩
            · have h64 : u 64 = .bool true := hR ⟨22, .data⟩ (by simp) rfl
              clear hR
              simp only [h64]
              clear h64
              refine if_yes (by kernel_rfl) ?_
              unfold Oper.wp
              go_simp
              exact ⟨.bool true, rfl, HC.out, Below.refl _ _, rfl⟩
            · have g65 : u 65 = .bool true := hR ⟨23, .guard⟩ (by simp) rfl
              clear hR
              simp only [g65]
              clear g65
              refine if_yes (by kernel_rfl) ?_
              unfold Oper.wp
              go_simp
              refine (fa_works _).mono ?_
              rintro r w3 ⟨rfl, hb3⟩
              exact ⟨.bool true, rfl, HC.out.call hb3, hb3, rfl⟩
            · have h65 : u 65 = .bool true := hR ⟨23, .data⟩ (by simp) rfl
              have h66 : u 66 = .bool true := hR ⟨24, .data⟩ (by simp) rfl
              clear hR
              simp only [h65, h66]
              clear h65 h66
              refine if_yes (by kernel_rfl) ?_
              unfold Oper.wp
              go_simp
              exact ⟨.bool true, rfl, HC.out, Below.refl _ _, rfl⟩
            · have h67 : u 67 = .bool true := hR ⟨25, .data⟩ (by simp) rfl
              clear hR
              simp only [h67]
              clear h67
              refine if_yes (by kernel_rfl) ?_
              unfold Oper.wp
              go_simp
              exact ⟨.bool true, rfl, HC.out, Below.refl _ _, rfl⟩
          · intro a' w' hC hB hR
            have h6 := hR 26 (by decide)
            obtain ⟨u, rfl⟩ := hB
            have h6 : u 6 = .bool true := h6
            simp only [h6]
            have HDZ := Lib.hid hC.df
            have HM : Hid (Below w.heap.size w (w'.putObj D (.deferred none))) := below_mark hC.low HDD.out hC.df
            clear hR h6
            go_wp2_with fail
            exact leave_one rfl HDZ.out (results_tmp rfl _ _ _) ⟨rfl, by rw [← HB5.out]; exact HM.out⟩
        · have k1 : decide (0 ≤ k) = false := decide_eq_false k1z
          clear hA2
          have HC0 : Hid (CFc w oa l ua uc ob mm b5 b8 k xs D W) := ⟨HFK.out.lt, HFK.out.cell 0, HBX.out.lt, HBX.out.cell, HFL.out, HFU.out, HFV.out, HDF.out, HLW.out⟩
          clear HFL HFU HFV
          go_wp2_with fail
          rename_i K0 hK0
          refine wp_region_list3 (SV2F (vsFC oa n cap kd k ua uc ob mm capb c) (fun j => if j = 17 then [59] else if j = 20 then [62] else [])) (BaseFC oa n cap b5 b8 kd ob mm capb D) (CFc w oa l ua uc ob mm b5 b8 k xs D) (Goes) (RV (vsFC oa n cap kd k ua uc ob mm capb c) (SpW (others kd l))) rfl (by kernel_rfl) (RV.ext2F SpW.ext) ?_ (HC0.out.call (Below.refl _ _).drew) (BaseFC.of _ (by kernel_rfl)) ?_ ?_
          · exact ⟨BaseFC.put42, BaseFC.put43, BaseFC.put44, BaseFC.put45, BaseFC.put46, BaseFC.put47, BaseFC.put48, BaseFC.put49, BaseFC.put50, BaseFC.put51, BaseFC.put52, BaseFC.put53, BaseFC.put54, BaseFC.put55, BaseFC.put56, BaseFC.put57, BaseFC.put58, BaseFC.put59, BaseFC.put60, BaseFC.put61, BaseFC.put62, BaseFC.put63, BaseFC.put64, BaseFC.put65, BaseFC.put66, BaseFC.put67, BaseFC.put6, trivial⟩
          · refine ⟨?_, ?_, ?_, ?_, ?_, ?_, ?_, ?_, ?_, ?_, ?_, ?_, ?_, ?_, ?_, ?_, ?_, ?_, ?_, ?_, ?_, ?_, ?_, ?_, ?_, ?_, ?_, trivial⟩
            all_goals
              intro a w' hC hB hR
              obtain ⟨u, rfl⟩ := hB
              have HC := Lib.hid hC
              clear hC
              clear hK0
            · have hc : w'.cell? ⟨b8, 0, none⟩ = some (.slice ua mm uc) := HC.out.sc
              clear hR
              refine if_yes (by kernel_rfl) ?_
              unfold Oper.wp
              go_simp
              exact ⟨.slice ua mm uc, rfl, HC.out, Below.refl _ _, rfl⟩
            · clear hR
              refine if_yes (by kernel_rfl) ?_
              unfold Oper.wp
              go_simp
              exact ⟨.slice ob mm capb, rfl, HC.out, Below.refl _ _, rfl⟩
            · have h42 : u 42 = .slice ua mm uc := hR ⟨0, .data⟩ (by simp) rfl
              have h43 : u 43 = .slice ob mm capb := hR ⟨1, .data⟩ (by simp) rfl
              clear hR
              simp only [h42, h43]
              clear h42 h43
              refine if_yes (by kernel_rfl) ?_
              unfold Oper.wp
              go_simp
              refine (HSM.out _ HC.out.fu HC.out.fv).mono ?_
              rintro r w3 ⟨rfl, hb3⟩
              exact ⟨.bool true, rfl, HC.out.call hb3, hb3, rfl⟩
            · have h44 : u 44 = .bool true := hR ⟨2, .data⟩ (by simp) rfl
              clear hR
              simp only [h44]
              clear h44
              refine if_yes (by kernel_rfl) ?_
              unfold Oper.wp
              go_simp
              exact ⟨.bool true, rfl, HC.out, Below.refl _ _, rfl⟩
            · have g45 : u 45 = .bool true := hR ⟨3, .guard⟩ (by simp) rfl
              clear hR
              simp only [g45]
              clear g45
              refine if_yes (by kernel_rfl) ?_
              unfold Oper.wp
              go_simp
              exact ⟨.slice oa n cap, rfl, HC.out, Below.refl _ _, rfl⟩
            · have g45 : u 45 = .bool true := hR ⟨3, .guard⟩ (by simp) rfl
              clear hR
              simp only [g45]
              clear g45
              refine if_yes (by kernel_rfl) ?_
              unfold Oper.wp
              go_simp
              exact ⟨.int .i64 kd, rfl, HC.out, Below.refl _ _, rfl⟩
            · have g45 : u 45 = .bool true := hR ⟨3, .guard⟩ (by simp) rfl
              have hc : w'.cell? ⟨b5, 0, none⟩ = some (.int .i64 k) := HC.out.kc
              clear hR
              simp only [g45]
              clear g45
              refine if_yes (by kernel_rfl) ?_
              unfold Oper.wp
              go_simp
              exact ⟨.int .i64 k, rfl, HC.out, Below.refl _ _, rfl⟩
            · have g45 : u 45 = .bool true := hR ⟨3, .guard⟩ (by simp) rfl
              have h46 : u 46 = .slice oa n cap := hR ⟨4, .data⟩ (by simp) rfl
              have h47 : u 47 = .int .i64 kd := hR ⟨5, .data⟩ (by simp) rfl
              have h48 : u 48 = .int .i64 k := hR ⟨6, .data⟩ (by simp) rfl
              clear hR
              simp only [g45, h46, h47, h48]
              clear g45 h46 h47 h48
              refine if_yes (by kernel_rfl) ?_
              unfold Oper.wp
              go_simp
              refine (HCT.out _ HC.out.fs).mono ?_
              rintro r w3 ⟨rfl, hb3⟩
              exact ⟨.int .i64 (c : Nat), rfl, HC.out.call hb3, hb3, rfl⟩
            · have g45 : u 45 = .bool true := hR ⟨3, .guard⟩ (by simp) rfl
              clear hR
              simp only [g45]
              clear g45
              refine if_yes (by kernel_rfl) ?_
              unfold Oper.wp
              go_simp
              exact ⟨.slice oa n cap, rfl, HC.out, Below.refl _ _, rfl⟩
            · have g45 : u 45 = .bool true := hR ⟨3, .guard⟩ (by simp) rfl
              clear hR
              simp only [g45]
              clear g45
              refine if_yes (by kernel_rfl) ?_
              unfold Oper.wp
              go_simp
              exact ⟨.int .i64 kd, rfl, HC.out, Below.refl _ _, rfl⟩
            · have g45 : u 45 = .bool true := hR ⟨3, .guard⟩ (by simp) rfl
              have hc : w'.cell? ⟨b5, 0, none⟩ = some (.int .i64 k) := HC.out.kc
              clear hR
              simp only [g45]
              clear g45
              refine if_yes (by kernel_rfl) ?_
              unfold Oper.wp
              go_simp
              exact ⟨.int .i64 k, rfl, HC.out, Below.refl _ _, rfl⟩
            · have g45 : u 45 = .bool true := hR ⟨3, .guard⟩ (by simp) rfl
              have h50 : u 50 = .slice oa n cap := hR ⟨8, .data⟩ (by simp) rfl
              have h51 : u 51 = .int .i64 kd := hR ⟨9, .data⟩ (by simp) rfl
              have h52 : u 52 = .int .i64 k := hR ⟨10, .data⟩ (by simp) rfl
              clear hR
              simp only [g45, h50, h51, h52]
              clear g45 h50 h51 h52
              refine if_yes (by kernel_rfl) ?_
              unfold Oper.wp
              go_simp
              refine (HRC.out _ HC.out.fs).mono ?_
              rintro r w3 ⟨rfl, rfl⟩
              exact ⟨.int .i64 (c : Nat), rfl, HC.out, Below.refl _ _, rfl⟩
            · have g45 : u 45 = .bool true := hR ⟨3, .guard⟩ (by simp) rfl
              have h49 : u 49 = .int .i64 (c : Nat) := hR ⟨7, .data⟩ (by simp) rfl
              have h53 : u 53 = .int .i64 (c : Nat) := hR ⟨11, .data⟩ (by simp) rfl
              clear hR
              simp only [g45, h49, h53]
              clear g45 h49 h53
              refine if_yes (by kernel_rfl) ?_
              unfold Oper.wp
              go_simp
              exact ⟨.bool true, rfl, HC.out, Below.refl _ _, rfl⟩
            · have h45 : u 45 = .bool true := hR ⟨3, .data⟩ (by simp) rfl
              have h54 : u 54 = .bool true := hR ⟨12, .data⟩ (by simp) rfl
              clear hR
              simp only [h45, h54]
              clear h45 h54
              refine if_yes (by kernel_rfl) ?_
              unfold Oper.wp
              go_simp
              exact ⟨.bool true, rfl, HC.out, Below.refl _ _, rfl⟩
            · have h55 : u 55 = .bool true := hR ⟨13, .data⟩ (by simp) rfl
              clear hR
              simp only [h55]
              clear h55
              refine if_yes (by kernel_rfl) ?_
              unfold Oper.wp
              go_simp
              exact ⟨.bool true, rfl, HC.out, Below.refl _ _, rfl⟩
            · have g56 : u 56 = .bool true := hR ⟨14, .guard⟩ (by simp) rfl
              clear hR
              simp only [g56]
              clear g56
              refine if_yes (by kernel_rfl) ?_
              unfold Oper.wp
              go_simp
              exact ⟨.slice oa n cap, rfl, HC.out, Below.refl _ _, rfl⟩
            · have g56 : u 56 = .bool true := hR ⟨14, .guard⟩ (by simp) rfl
              clear hR
              simp only [g56]
              clear g56
              refine if_yes (by kernel_rfl) ?_
              unfold Oper.wp
              go_simp
              exact ⟨.int .i64 kd, rfl, HC.out, Below.refl _ _, rfl⟩
            · have g56 : u 56 = .bool true := hR ⟨14, .guard⟩ (by simp) rfl
              have h57 : u 57 = .slice oa n cap := hR ⟨15, .data⟩ (by simp) rfl
              have h58 : u 58 = .int .i64 kd := hR ⟨16, .data⟩ (by simp) rfl
              clear hR
              simp only [g56, h57, h58]
              clear g56 h57 h58
              refine if_yes (by kernel_rfl) ?_
              unfold Oper.wp
              go_simp
              refine (HWO.out _ HC.out.fs).mono ?_
              rintro r w3 ⟨oa2, cap2, rfl, hf2, hb3⟩
              exact ⟨.slice oa2 (others kd l).length cap2, rfl, HC.out.call hb3, hb3, ⟨fun _ => ⟨oa2, cap2, rfl, hf2⟩, fun h => absurd h (by decide)⟩⟩
            · have g56 : u 56 = .bool true := hR ⟨14, .guard⟩ (by simp) rfl
              clear hR
              simp only [g56]
              clear g56
              refine if_yes (by kernel_rfl) ?_
              unfold Oper.wp
              go_simp
              exact ⟨.slice oa n cap, rfl, HC.out, Below.refl _ _, rfl⟩
            · have g56 : u 56 = .bool true := hR ⟨14, .guard⟩ (by simp) rfl
              clear hR
              simp only [g56]
              clear g56
              refine if_yes (by kernel_rfl) ?_
              unfold Oper.wp
              go_simp
              exact ⟨.int .i64 kd, rfl, HC.out, Below.refl _ _, rfl⟩
            · have g56 : u 56 = .bool true := hR ⟨14, .guard⟩ (by simp) rfl
              have h60 : u 60 = .slice oa n cap := hR ⟨18, .data⟩ (by simp) rfl
              have h61 : u 61 = .int .i64 kd := hR ⟨19, .data⟩ (by simp) rfl
              clear hR
              simp only [g56, h60, h61]
              clear g56 h60 h61
              refine if_yes (by kernel_rfl) ?_
              unfold Oper.wp
              go_simp
              refine (HRW.out _ HC.out.fs).mono ?_
              rintro r w3 ⟨oa2, cap2, rfl, hf2, hb3⟩
              exact ⟨.slice oa2 (others kd l).length cap2, rfl, HC.out.call hb3, hb3, ⟨fun h => absurd h (by decide), fun _ => ⟨oa2, cap2, rfl, hf2⟩⟩⟩
            · have g56 : u 56 = .bool true := hR ⟨14, .guard⟩ (by simp) rfl
              obtain ⟨oa2, cap2, hg, hz⟩ := (hR ⟨17, .data⟩ (by simp) rfl).1 rfl
              have hg : u 59 = .slice oa2 (others kd l).length cap2 := hg
              obtain ⟨oa3, cap3, hg3, hz3⟩ := (hR ⟨20, .data⟩ (by simp) rfl).2 rfl
              have hg3 : u 62 = .slice oa3 (others kd l).length cap3 := hg3
              clear hR
              simp only [g56]
              clear g56
              refine if_yes (by kernel_rfl) ?_
              simp only [hg, hg3]
              unfold Oper.wp
              go_simp
              refine (fa_same oa2 oa3 cap2 cap3 (others kd l) HOL.out _ hz hz3).mono ?_
              rintro r w3 ⟨rfl, hb3⟩
              exact ⟨.bool true, rfl, HC.out.call hb3, hb3, rfl⟩
            · have h56 : u 56 = .bool true := hR ⟨14, .data⟩ (by simp) rfl
              have h63 : u 63 = .bool true := hR ⟨21, .data⟩ (by simp) rfl
              clear hR
              simp only [h56, h63]
              clear h56 h63
              refine if_yes (by kernel_rfl) ?_
              unfold Oper.wp
              go_simp
              exact ⟨.bool true, rfl, HC.out, Below.refl _ _, rfl⟩
            · have h64 : u 64 = .bool true := hR ⟨22, .data⟩ (by simp) rfl
              clear hR
              simp only [h64]
              clear h64
              refine if_yes (by kernel_rfl) ?_
              unfold Oper.wp
              go_simp
              exact ⟨.bool true, rfl, HC.out, Below.refl _ _, rfl⟩
            · have g65 : u 65 = .bool true := hR ⟨23, .guard⟩ (by simp) rfl
              clear hR
              simp only [g65]
              clear g65
              refine if_yes (by kernel_rfl) ?_
              unfold Oper.wp
              go_simp
              refine (fa_works _).mono ?_
              rintro r w3 ⟨rfl, hb3⟩
              exact ⟨.bool true, rfl, HC.out.call hb3, hb3, rfl⟩
            · have h65 : u 65 = .bool true := hR ⟨23, .data⟩ (by simp) rfl
              have h66 : u 66 = .bool true := hR ⟨24, .data⟩ (by simp) rfl
              clear hR
              simp only [h65, h66]
              clear h65 h66
              refine if_yes (by kernel_rfl) ?_
              unfold Oper.wp
              go_simp
              exact ⟨.bool true, rfl, HC.out, Below.refl _ _, rfl⟩
            · have h67 : u 67 = .bool true := hR ⟨25, .data⟩ (by simp) rfl
              clear hR
              simp only [h67]
              clear h67
              refine if_yes (by kernel_rfl) ?_
              unfold Oper.wp
              go_simp
              exact ⟨.bool true, rfl, HC.out, Below.refl _ _, rfl⟩
          · intro a' w' hC hB hR
            have h6 := hR 26 (by decide)
            obtain ⟨u, rfl⟩ := hB
            have h6 : u 6 = .bool true := h6
            simp only [h6]
            have HDZ := Lib.hid hC.df
            have HM : Hid (Below w.heap.size w (w'.putObj D (.deferred none))) := below_mark hC.low HDD.out hC.df
            clear hR h6
            go_wp2_with fail
            exact leave_one rfl HDZ.out (results_tmp rfl _ _ _) ⟨rfl, by rw [← HB5.out]; exact HM.out⟩

end Go.Proofs.Ytbpkaegkcknemaa
