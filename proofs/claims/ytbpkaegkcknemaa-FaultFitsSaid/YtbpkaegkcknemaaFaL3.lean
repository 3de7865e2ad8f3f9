/- Layer 9, the laws: FaultFits. -/
import Derived.Test.YtbpkaegkcknemaaFaL1
import Derived.Test.YtbpkaegkcknemaaFaC6
namespace Go.Proofs.Ytbpkaegkcknemaa
set_option maxRecDepth 100000
open Go.RowKit Go.Shelf Go.Proofs

theorem meet_some {l : List Fa} {t op : Int} {x : Fa} (h : meetF l t op = some x) : x ∈ l ∧ x.1 = t ∧ fitsB x.2.1 op = true := by
  unfold meetF at h
  have h1 := List.find?_some h
  have h2 := List.mem_of_find?_eq_some h
  unfold hitB at h1
  simp at h1
  exact ⟨h2, h1.1, h1.2⟩
theorem fits_iff {k op : Int} (h : fitsB k op = true) : (1 ≤ op ∧ op ≤ 5) ∧ (k = 1 ∨ (k = 2 ∧ ¬ op = 1) ∨ (k = 3 ∧ op = 1)) := of_decide_eq_true h
theorem others_mem {k : Int} {l : List Fa} {x : Fa} (h : x ∈ others k l) : x.2.1 ≠ k := by
  unfold others at h
  have := (List.mem_filter.1 h).2
  simpa using this
theorem others_cnt (k b : Int) (l : List Fa) : cntF k b (others k l) = 0 := by
  unfold cntF
  rw [List.countP_eq_zero]
  intro x hx
  have := others_mem hx
  unfold cntB
  simp [this]
theorem others_meet {k t op : Int} {l : List Fa} (hk : k ≠ 0) : ((meetF (others k l) t op).getD f0).2.1 ≠ k := by
  cases h : meetF (others k l) t op with
  | none => exact fun e => hk e.symm
  | some y => exact others_mem (meet_some h).1
/-- is one of the first i that one -/
def thereF (x : Fa) (l : List Fa) : Bool := l.any fun y => eqF y x
theorem thereF_take (x : Fa) (l : List Fa) (i : Nat) (hi : i < l.length) : thereF x (l.take (i + 1)) = (thereF x (l.take i) || eqF l[i] x) := by
  unfold thereF
  rw [List.take_add_one, List.getElem?_eq_getElem hi, Option.toList_some, List.any_append]
  simp
theorem thereF_mem {x : Fa} {l : List Fa} (h : x ∈ l) : thereF x l = true := List.any_eq_true.2 ⟨x, h, eqF_self x⟩

structure CFi (w0 : World) (oa : Option Addr) (l : List Fa) (gF gG : Nat) (k ky : Int) (w : World) : Prop where
  fl : gF < w.heap.size
  gl : gG < w.heap.size
  cF : w.cell? ⟨gF, 1, none⟩ = some (.int .i64 k)
  cG : w.cell? ⟨gG, 1, none⟩ = some (.int .i64 ky)
  fs : FsAt w oa l
  low : Below w0.heap.size w0 w
theorem CFi.call {w0 w w' : World} {oa : Option Addr} {l : List Fa} {gF gG : Nat} {k ky : Int} (h : CFi w0 oa l gF gG k ky w) (hb : Below w.heap.size w w') : CFi w0 oa l gF gG k ky w' :=
  ⟨Nat.lt_of_lt_of_le h.fl hb.size, Nat.lt_of_lt_of_le h.gl hb.size, (hb.cell (p := ⟨gF, 1, none⟩) h.fl).trans h.cF, (hb.cell (p := ⟨gG, 1, none⟩) h.gl).trans h.cG, h.fs.below hb, h.low.trans (hb.mono h.low.size)⟩
def SpO (d : Tmp) (L : List Fa) (_ : Nat) (a : Act) (w : World) : Prop := ∃ oa cap, a.tmps.getD d undef = .slice oa L.length cap ∧ FsAt w oa L
theorem SpO.ext {d : Tmp} {L : List Fa} : ∀ j a a' w w', SpO d L j a w → (∀ s ∈ [d], a'.tmps.getD s undef = a.tmps.getD s undef) → Goes w w' → SpO d L j a' w' := by
  intro j a a' w w' ⟨oa, cap, h1, h2⟩ hd hT
  exact ⟨oa, cap, (hd d (by simp)).trans h1, h2.below hT⟩

/-- what each operation of the region FF leaves -/
def vsFF (oa : Option Addr) (n cap gF gG : Nat) (k ky : Int) : List (Option (Tmp × Value)) :=
  [some (88, .pointer (some ⟨gG, 1, none⟩)), some (89, .int .i64 ky), some (90, .pointer (some ⟨gF, 1, none⟩)), some (91, .int .i64 k), some (92, .bool true), some (93, .bool true), some (94, .slice oa n cap), some (95, .pointer (some ⟨gF, 1, none⟩)), some (96, .int .i64 k), none, some (98, .pointer (some ⟨gF, 1, none⟩)), some (99, .int .i64 k), some (100, .int .i64 0), some (101, .bool true), some (102, .bool true), some (6, .bool true)]
/-- the frame while the region FF runs -/
def BaseFF (oa : Option Addr) (n cap gF gG : Nat) (a : Act) : Prop := ∃ u : Nat → Value, a = ⟨#[.slice oa n cap, u 1, u 2, u 3, u 4, u 5, u 6, .pointer (some ⟨gF, 0, none⟩), u 8, u 9, u 10, u 11, .pointer (some ⟨gG, 0, none⟩), u 13, u 14, u 15, u 16, u 17, u 18, u 19, u 20, u 21, u 22, u 23, u 24, u 25, u 26, u 27, u 28, u 29, u 30, u 31, u 32, u 33, u 34, u 35, u 36, u 37, u 38, u 39, u 40, u 41, u 42, u 43, u 44, u 45, u 46, u 47, u 48, u 49, u 50, u 51, u 52, u 53, u 54, u 55, u 56, u 57, u 58, u 59, u 60, u 61, u 62, u 63, u 64, u 65, u 66, u 67, u 68, u 69, u 70, u 71, u 72, u 73, u 74, u 75, u 76, u 77, u 78, u 79, u 80, u 81, u 82, u 83, u 84, u 85, u 86, u 87, u 88, u 89, u 90, u 91, u 92, u 93, u 94, u 95, u 96, u 97, u 98, u 99, u 100, u 101, u 102], []⟩
theorem BaseFF.of {oa : Option Addr} {n cap gF gG : Nat} (arr : Array Value) (h : arr = #[.slice oa n cap, arr.getD 1 undef, arr.getD 2 undef, arr.getD 3 undef, arr.getD 4 undef, arr.getD 5 undef, arr.getD 6 undef, .pointer (some ⟨gF, 0, none⟩), arr.getD 8 undef, arr.getD 9 undef, arr.getD 10 undef, arr.getD 11 undef, .pointer (some ⟨gG, 0, none⟩), arr.getD 13 undef, arr.getD 14 undef, arr.getD 15 undef, arr.getD 16 undef, arr.getD 17 undef, arr.getD 18 undef, arr.getD 19 undef, arr.getD 20 undef, arr.getD 21 undef, arr.getD 22 undef, arr.getD 23 undef, arr.getD 24 undef, arr.getD 25 undef, arr.getD 26 undef, arr.getD 27 undef, arr.getD 28 undef, arr.getD 29 undef, arr.getD 30 undef, arr.getD 31 undef, arr.getD 32 undef, arr.getD 33 undef, arr.getD 34 undef, arr.getD 35 undef, arr.getD 36 undef, arr.getD 37 undef, arr.getD 38 undef, arr.getD 39 undef, arr.getD 40 undef, arr.getD 41 undef, arr.getD 42 undef, arr.getD 43 undef, arr.getD 44 undef, arr.getD 45 undef, arr.getD 46 undef, arr.getD 47 undef, arr.getD 48 undef, arr.getD 49 undef, arr.getD 50 undef, arr.getD 51 undef, arr.getD 52 undef, arr.getD 53 undef, arr.getD 54 undef, arr.getD 55 undef, arr.getD 56 undef, arr.getD 57 undef, arr.getD 58 undef, arr.getD 59 undef, arr.getD 60 undef, arr.getD 61 undef, arr.getD 62 undef, arr.getD 63 undef, arr.getD 64 undef, arr.getD 65 undef, arr.getD 66 undef, arr.getD 67 undef, arr.getD 68 undef, arr.getD 69 undef, arr.getD 70 undef, arr.getD 71 undef, arr.getD 72 undef, arr.getD 73 undef, arr.getD 74 undef, arr.getD 75 undef, arr.getD 76 undef, arr.getD 77 undef, arr.getD 78 undef, arr.getD 79 undef, arr.getD 80 undef, arr.getD 81 undef, arr.getD 82 undef, arr.getD 83 undef, arr.getD 84 undef, arr.getD 85 undef, arr.getD 86 undef, arr.getD 87 undef, arr.getD 88 undef, arr.getD 89 undef, arr.getD 90 undef, arr.getD 91 undef, arr.getD 92 undef, arr.getD 93 undef, arr.getD 94 undef, arr.getD 95 undef, arr.getD 96 undef, arr.getD 97 undef, arr.getD 98 undef, arr.getD 99 undef, arr.getD 100 undef, arr.getD 101 undef, arr.getD 102 undef]) : BaseFF oa n cap gF gG ⟨arr, []⟩ := ⟨fun i => arr.getD i undef, by rw [← h]⟩
theorem BaseFF.put88 {oa : Option Addr} {n cap gF gG : Nat} (a : Act) (v : Value) (h : BaseFF oa n cap gF gG a) : BaseFF oa n cap gF gG (a.put (some 88) v) := by
  obtain ⟨u, rfl⟩ := h
  exact ⟨fun i => if i = 88 then v else u i, by kernel_rfl⟩
theorem BaseFF.put89 {oa : Option Addr} {n cap gF gG : Nat} (a : Act) (v : Value) (h : BaseFF oa n cap gF gG a) : BaseFF oa n cap gF gG (a.put (some 89) v) := by
  obtain ⟨u, rfl⟩ := h
  exact ⟨fun i => if i = 89 then v else u i, by kernel_rfl⟩
theorem BaseFF.put90 {oa : Option Addr} {n cap gF gG : Nat} (a : Act) (v : Value) (h : BaseFF oa n cap gF gG a) : BaseFF oa n cap gF gG (a.put (some 90) v) := by
  obtain ⟨u, rfl⟩ := h
  exact ⟨fun i => if i = 90 then v else u i, by kernel_rfl⟩
theorem BaseFF.put91 {oa : Option Addr} {n cap gF gG : Nat} (a : Act) (v : Value) (h : BaseFF oa n cap gF gG a) : BaseFF oa n cap gF gG (a.put (some 91) v) := by
  obtain ⟨u, rfl⟩ := h
  exact ⟨fun i => if i = 91 then v else u i, by kernel_rfl⟩
theorem BaseFF.put92 {oa : Option Addr} {n cap gF gG : Nat} (a : Act) (v : Value) (h : BaseFF oa n cap gF gG a) : BaseFF oa n cap gF gG (a.put (some 92) v) := by
  obtain ⟨u, rfl⟩ := h
  exact ⟨fun i => if i = 92 then v else u i, by kernel_rfl⟩
theorem BaseFF.put93 {oa : Option Addr} {n cap gF gG : Nat} (a : Act) (v : Value) (h : BaseFF oa n cap gF gG a) : BaseFF oa n cap gF gG (a.put (some 93) v) := by
  obtain ⟨u, rfl⟩ := h
  exact ⟨fun i => if i = 93 then v else u i, by kernel_rfl⟩
theorem BaseFF.put94 {oa : Option Addr} {n cap gF gG : Nat} (a : Act) (v : Value) (h : BaseFF oa n cap gF gG a) : BaseFF oa n cap gF gG (a.put (some 94) v) := by
  obtain ⟨u, rfl⟩ := h
  exact ⟨fun i => if i = 94 then v else u i, by kernel_rfl⟩
theorem BaseFF.put95 {oa : Option Addr} {n cap gF gG : Nat} (a : Act) (v : Value) (h : BaseFF oa n cap gF gG a) : BaseFF oa n cap gF gG (a.put (some 95) v) := by
  obtain ⟨u, rfl⟩ := h
  exact ⟨fun i => if i = 95 then v else u i, by kernel_rfl⟩
theorem BaseFF.put96 {oa : Option Addr} {n cap gF gG : Nat} (a : Act) (v : Value) (h : BaseFF oa n cap gF gG a) : BaseFF oa n cap gF gG (a.put (some 96) v) := by
  obtain ⟨u, rfl⟩ := h
  exact ⟨fun i => if i = 96 then v else u i, by kernel_rfl⟩
theorem BaseFF.put97 {oa : Option Addr} {n cap gF gG : Nat} (a : Act) (v : Value) (h : BaseFF oa n cap gF gG a) : BaseFF oa n cap gF gG (a.put (some 97) v) := by
  obtain ⟨u, rfl⟩ := h
  exact ⟨fun i => if i = 97 then v else u i, by kernel_rfl⟩
theorem BaseFF.put98 {oa : Option Addr} {n cap gF gG : Nat} (a : Act) (v : Value) (h : BaseFF oa n cap gF gG a) : BaseFF oa n cap gF gG (a.put (some 98) v) := by
  obtain ⟨u, rfl⟩ := h
  exact ⟨fun i => if i = 98 then v else u i, by kernel_rfl⟩
theorem BaseFF.put99 {oa : Option Addr} {n cap gF gG : Nat} (a : Act) (v : Value) (h : BaseFF oa n cap gF gG a) : BaseFF oa n cap gF gG (a.put (some 99) v) := by
  obtain ⟨u, rfl⟩ := h
  exact ⟨fun i => if i = 99 then v else u i, by kernel_rfl⟩
theorem BaseFF.put100 {oa : Option Addr} {n cap gF gG : Nat} (a : Act) (v : Value) (h : BaseFF oa n cap gF gG a) : BaseFF oa n cap gF gG (a.put (some 100) v) := by
  obtain ⟨u, rfl⟩ := h
  exact ⟨fun i => if i = 100 then v else u i, by kernel_rfl⟩
theorem BaseFF.put101 {oa : Option Addr} {n cap gF gG : Nat} (a : Act) (v : Value) (h : BaseFF oa n cap gF gG a) : BaseFF oa n cap gF gG (a.put (some 101) v) := by
  obtain ⟨u, rfl⟩ := h
  exact ⟨fun i => if i = 101 then v else u i, by kernel_rfl⟩
theorem BaseFF.put102 {oa : Option Addr} {n cap gF gG : Nat} (a : Act) (v : Value) (h : BaseFF oa n cap gF gG a) : BaseFF oa n cap gF gG (a.put (some 102) v) := by
  obtain ⟨u, rfl⟩ := h
  exact ⟨fun i => if i = 102 then v else u i, by kernel_rfl⟩
theorem BaseFF.put6 {oa : Option Addr} {n cap gF gG : Nat} (a : Act) (v : Value) (h : BaseFF oa n cap gF gG a) : BaseFF oa n cap gF gG (a.put (some 6) v) := by
  obtain ⟨u, rfl⟩ := h
  exact ⟨fun i => if i = 6 then v else u i, by kernel_rfl⟩

set_option maxHeartbeats 8000000 in
theorem walk_FaultFits (oa : Option Addr) (cap : Nat) (l : List Fa) (t op : Int) (hl : l.length ≤ maxLen) (_ : (Lit.int .i64 t).wf = true) (_ : (Lit.int .i64 op).wf = true) (w : World) (ha : FsAt w oa l) :
    Calls Try.prog 5 #[.slice oa l.length cap, .int .i64 t, .int .i64 op] w fun e w' => e = .returned (.bool true) ∧ Below w.heap.size w w' := by
  have hl2 : (l.length : Int) ≤ 9223372036854775807 := by unfold maxLen at hl; omega
  have HFS := Lib.hid ha
  have HLM := Lib.hid hl
  obtain ⟨n, hn⟩ : ∃ n, l.length = n := ⟨_, rfl⟩
  have HN := Lib.hid hn
  have HM := Lib.hid (fun w ha => fa_meets oa cap l hl t op w ha)
  rw [hn] at hl2 HM ⊢
  clear hn ha hl
  go_enter Try.func5, Try.ntmps5
  go_wp2_with fail
  refine (fa_works w).mono ?_
  rintro r w1 ⟨rfl, hb1⟩
  have HB1 := Lib.hid hb1
  have HFS1 := Lib.hid (HFS.out.below hb1)
  clear hb1
  by_cases hbig : 300 < n
  · have hbz : (300 : Int) < (n : Int) := by omega
    go_wp2_with fail
    go_ret
    exact ⟨rfl, HB1.out⟩
  · have hbz : ¬ (300 : Int) < (n : Int) := by omega
    go_wp2_with fail
    refine (HM.out w1 HFS1.out).mono ?_
    rintro r w2 ⟨rfl, hb2⟩
    have HB2 := Lib.hid (HB1.out.trans (hb2.mono HB1.out.size))
    have HFS2 := Lib.hid (HFS1.out.below hb2)
    clear hb2 HM HFS1 HB1
    cases ho : meetF l t op with
    | none =>
      have hz := Blk.new w2 (encF f0).toArray 26
      obtain ⟨w3, hw3⟩ : ∃ w3, (w2.alloc (.cells (encF f0).toArray 26)).setRow w2.heap.size (encF f0).toArray = w3 := ⟨_, rfl⟩
      have hk3 : Blk w3 w2.heap.size (encF f0).toArray 26 := by rw [← hw3]; exact hz.put _
      have hb3 : Below w2.heap.size w2 w3 := by rw [← hw3]; exact below_put (Nat.le_refl _) _ ((Below.refl _ w2).alloc (Nat.le_refl _) _)
      have Z := Lib.hid hz
      have HW3 := Lib.hid hw3
      have K3 := Lib.hid hk3
      have HB3 := Lib.hid (HB2.out.trans (hb3.mono HB2.out.size))
      clear hz hw3 hk3 hb3 ho
      simp only [meetV, Option.getD_none, Option.isSome_none]
      go_wp2_with (first
        | (refine wpList_store_row rfl 26 (.tmp 7) (.tmp 24) rfl w2.heap.size (encF f0).toArray rfl rfl 26 (encF f0).toArray Z.out size_fault rfl (encF_all _) ?_; change wpList _ _ _ _ _ ((w2.alloc (.cells (encF f0).toArray 26)).setRow w2.heap.size (encF f0).toArray); rw [HW3.out])
        | (refine wpList_load_row rfl 26 (.tmp 7) rfl w2.heap.size rfl 26 (encF f0).toArray (0, 0) _ K3.out Try.underlying26 rfl size_fault ?_)
        | (refine wpList_eql_fault rfl (.tmp 28) (.tmp 29) rfl f0 f0 rfl rfl ?_; rw [eqF_self]))
      go_ret
      exact ⟨rfl, HB3.out⟩
    | some x =>
      obtain ⟨hmem, hxt, hfit⟩ := meet_some ho
      have hfi := fits_iff hfit
      obtain ⟨x1, k, x3, x4⟩ := x
      simp only at hxt hfi
      have hk0 : k ≠ 0 := by omega
      have HTH := Lib.hid (thereF_mem hmem)
      have HO2 : Hid (((meetF (others k l) t op).getD f0).2.1 ≠ k) := others_meet hk0
      have HCT : Hid (cntF k 4611686018427387904 (others k l) = 0) := others_cnt k _ l
      have HOL : Hid ((others k l).length ≤ maxLen) := Nat.le_trans (others_le k l) HLM.out
      have HWO : Hid (∀ w', FsAt w' oa l → Calls Try.prog 17 #[.slice oa n cap, .int .i64 k] w' (GivesF w' (others k l))) := fun w' h => by
        have := fa_without oa cap l (by have := HN.out; omega) k w' h
        rwa [HN.out] at this
      have hz := Blk.new w2 (encF f0).toArray 26
      obtain ⟨w3, hw3⟩ : ∃ w3, (w2.alloc (.cells (encF f0).toArray 26)).setRow w2.heap.size (encF (x1, k, x3, x4)).toArray = w3 := ⟨_, rfl⟩
      have hk3 : Blk w3 w2.heap.size (encF (x1, k, x3, x4)).toArray 26 := by rw [← hw3]; exact hz.put _
      have hb3 : Below w2.heap.size w2 w3 := by rw [← hw3]; exact below_put (Nat.le_refl _) _ ((Below.refl _ w2).alloc (Nat.le_refl _) _)
      have Z := Lib.hid hz
      have HW3 := Lib.hid hw3
      have K3 := Lib.hid hk3
      have HB3 := Lib.hid (HB2.out.trans (hb3.mono HB2.out.size))
      have HFS3 := Lib.hid (HFS2.out.below hb3)
      have t1 : (x1 == t) = true := by simpa using hxt
      have t1b : (x1 != t) = false := by simp [hxt]
      have t2 : decide (op < 1) = false := decide_eq_false (by omega)
      have t3 : decide (5 < op) = false := decide_eq_false (by omega)
      have t2n : ¬ op < 1 := by omega
      have t3n : ¬ 5 < op := by omega
      have HFI : Hid (k = 1 ∨ (k = 2 ∧ ¬ op = 1) ∨ (k = 3 ∧ op = 1)) := hfi.2
      have HOA : Hid (n = 0 → False) := fun h0 => by
        have : l = [] := List.eq_nil_of_length_eq_zero (HN.out.trans h0)
        rw [this] at hmem; exact absurd hmem (by simp)
      obtain ⟨b, off, hoa, hbl, hcs⟩ := HFS3.out (fun e => by rw [e] at hmem; exact absurd hmem (by simp))
      have HOAE := Lib.hid hoa
      have HC3 : Hid (∀ i (hi : i < l.length), w3.rangeAt b (off + i * 4) (encF l[i])) := hcs
      have HXT := Lib.hid hxt
      clear hz hw3 hk3 hb3 ho hmem hxt hfit hfi hk0 hcs hoa
      simp only [meetV, Option.getD_some, Option.isSome_some]
      go_wp2_with (first
        | (refine wpList_store_row rfl 26 (.tmp 7) (.tmp 24) rfl w2.heap.size (encF (x1, k, x3, x4)).toArray rfl rfl 26 (encF f0).toArray Z.out size_fault rfl (encF_all _) ?_; change wpList _ _ _ _ _ ((w2.alloc (.cells (encF f0).toArray 26)).setRow w2.heap.size (encF (x1, k, x3, x4)).toArray); rw [HW3.out]))
      obtain ⟨gF, hgF⟩ : ∃ g, w2.heap.size = g := ⟨_, rfl⟩
      rw [hgF] at K3
      simp only [hgF]
      clear Z HW3 HB2 HFS2 hgF
      have hoa := HOAE.out
      subst hoa
      clear HOAE
      go_loopg [9, 33] n (fun kx s9 s33 wr => ∃ (i : Nat) (q : Bool), s33 = .int .i64 i ∧ s9 = .bool q ∧ i ≤ n ∧ n - i ≤ kx ∧ Hid (Below w3.heap.size w3 wr) ∧ Hid (q = thereF (x1, k, x3, x4) (l.take i)))
      case atStart => exact ⟨0, false, rfl, rfl, Nat.zero_le _, Nat.le_refl _, Below.refl _ _, rfl⟩
      case round =>
        obtain ⟨i, q, rfl, rfl, hi, hkx, HBR, HQ⟩ := hrel
        by_cases hlt : i < n
        · have hltz : (i : Int) < (n : Int) := by omega
          have hil : i < l.length := by have := HN.out; omega
          have hr : wr.rangeAt b (off + i * 4) (encF l[i]) := fun t v hv => by
            rw [World.cell?_of_block (w := w3) (HBR.out.block b hbl)]; exact HC3.out i hil t v hv
          have htk := thereF_take (x1, k, x3, x4) l i hil
          generalize l[i] = y at hr htk
          have HR := Lib.hid hr
          have HTK := Lib.hid htk
          have hK0 : Blk (wr.alloc (.cells (encF f0).toArray 26)) wr.heap.size (encF f0).toArray 26 := Blk.new wr _ _
          obtain ⟨w4, hw4⟩ : ∃ w4, (wr.alloc (.cells (encF f0).toArray 26)).setRow wr.heap.size (encF y).toArray = w4 := ⟨_, rfl⟩
          have hK4 : Blk w4 wr.heap.size (encF y).toArray 26 := by rw [← hw4]; exact hK0.put _
          have hb4 : Below wr.heap.size wr w4 := by rw [← hw4]; exact below_put (Nat.le_refl _) _ ((Below.refl _ wr).alloc (Nat.le_refl _) _)
          have K0 := Lib.hid hK0
          have K4 := Lib.hid hK4
          have HW4 := Lib.hid hw4
          have HBR4 := Lib.hid (HBR.out.trans (hb4.mono HBR.out.size))
          have KF4 := Lib.hid (K3.out.after HBR4.out)
          clear hr htk hK0 hK4 hw4 hb4 hil HBR
          cases q with
          | true =>
            go_wp2_with (first
              | (refine wpList_load_mid rfl 26 (.tmp 35) rfl b (off + i * 4) rfl (encF y) _ HR.out Try.underlying26 rfl size_fault ?_)
              | (refine wpList_store_row rfl 26 (.tmp 11) (.tmp 36) rfl wr.heap.size (encF y).toArray rfl rfl 26 (encF f0).toArray K0.out size_fault rfl (encF_all _) ?_; change wpList _ _ _ _ _ ((wr.alloc (.cells (encF f0).toArray 26)).setRow wr.heap.size (encF y).toArray); rw [HW4.out]))
            go_roundg (n - (i + 1))
            case measure => omega
            case rel =>
              have HQ2 : Hid (true = thereF (x1, k, x3, x4) (l.take (i + 1))) := by show _ = _; rw [HTK.out, ← HQ.out]; rfl
              exact ⟨i + 1, true, by go_num, rfl, by omega, Nat.le_refl _, HBR4, HQ2⟩
          | false =>
            have HQ2 : Hid (eqF y (x1, k, x3, x4) = thereF (x1, k, x3, x4) (l.take (i + 1))) := by show _ = _; rw [HTK.out, ← HQ.out]; rfl
            obtain ⟨q2, hq2⟩ : ∃ q2, eqF y (x1, k, x3, x4) = q2 := ⟨_, rfl⟩
            rw [hq2] at HQ2
            have HQE := Lib.hid hq2
            clear hq2
            go_wp2_with (first
              | (refine wpList_load_mid rfl 26 (.tmp 35) rfl b (off + i * 4) rfl (encF y) _ HR.out Try.underlying26 rfl size_fault ?_)
              | (refine wpList_store_row rfl 26 (.tmp 11) (.tmp 36) rfl wr.heap.size (encF y).toArray rfl rfl 26 (encF f0).toArray K0.out size_fault rfl (encF_all _) ?_; change wpList _ _ _ _ _ ((wr.alloc (.cells (encF f0).toArray 26)).setRow wr.heap.size (encF y).toArray); rw [HW4.out])
              | (refine wpList_load_row_if (by kernel_rfl) 26 (.tmp 11) rfl wr.heap.size rfl 26 (encF y).toArray (0, 0) _ K4.out Try.underlying26 rfl size_fault ?_)
              | (refine wpList_load_row_if (by kernel_rfl) 26 (.tmp 7) rfl gF rfl 26 (encF (x1, k, x3, x4)).toArray (0, 0) _ KF4.out Try.underlying26 rfl size_fault ?_)
              | (refine wpList_eql_fault_if (by kernel_rfl) (.tmp 39) (.tmp 40) rfl y (x1, k, x3, x4) rfl rfl ?_; rw [HQE.out]))
            go_roundg (n - (i + 1))
            case measure => omega
            case rel => exact ⟨i + 1, q2, by go_num, rfl, by omega, Nat.le_refl _, HBR4, HQ2⟩
        · obtain rfl : i = n := by omega
          have hltz : ¬ (i : Int) < (i : Int) := by omega
          have hq : q = true := by
            rw [HQ.out, ← HN.out, List.take_length]; exact HTH.out
          subst hq
          have hkr := K3.out.after HBR.out
          have c0 : wr.cell? ⟨gF, 0, none⟩ = some (.int .i64 x1) := hkr.cell 0
          have c1 : wr.cell? ⟨gF, 1, none⟩ = some (.int .i64 k) := hkr.cell 1
          have KR := Lib.hid hkr
          have HFSR := Lib.hid (HFS3.out.below HBR.out)
          have HBr := Lib.hid (HB3.out.trans (HBR.out.mono HB3.out.size))
          have HWR := Lib.hid (HWO.out wr HFSR.out)
          have HMO := Lib.hid (fun oa2 cap2 w h => fa_meets oa2 cap2 (others k l) HOL.out t op w h)
          obtain ⟨y, hy⟩ : ∃ y, (meetF (others k l) t op).getD f0 = y := ⟨_, rfl⟩
          obtain ⟨ok, hok⟩ : ∃ ok, (meetF (others k l) t op).isSome = ok := ⟨_, rfl⟩
          unfold meetV at HMO
          rw [hy, hok] at HMO
          rw [hy] at HO2
          clear hkr hy hok HQ HBR
          have fin : ∀ (w5 : World) (K : True), True := fun _ _ => trivial
          clear fin
          have rest : (k = 2 → ¬ op = 1) ∧ (k = 3 → op = 1) := by
            rcases HFI.out with h | h | h
            · exact ⟨fun e => by omega, fun e => by omega⟩
            · exact ⟨fun _ => h.2, fun e => by omega⟩
            · exact ⟨fun e => by omega, fun _ => h.2⟩
          have HREST := Lib.hid rest
          clear rest
          by_cases h1 : op = 1
          · have o1 : (op == 1) = true := by simpa using h1
            have o3 : (op != 1) = false := by simp [h1]
            have o2 : (k == 2) = false := by
              rw [beq_eq_false_iff_ne]; exact fun e => HREST.out.1 e h1
            clear h1
            go_wp2_with fail
            refine HWR.out.mono ?_
            rintro r w4 ⟨oa2, cap2, rfl, hf4, hb4⟩
            have K4 := Lib.hid (KR.out.after hb4)
            have HFS4 := Lib.hid (HFSR.out.below hb4)
            have HB4 := Lib.hid (HBr.out.trans (hb4.mono HBr.out.size))
            have HM4 := Lib.hid (HMO.out oa2 cap2 w4 hf4)
            clear hf4 hb4 HWR c0 c1
            go_wp2_with fail
            refine HM4.out.mono ?_
            rintro r w5 ⟨rfl, hb5⟩
            have hz := Blk.new w5 (encF f0).toArray 26
            obtain ⟨w6, hw6⟩ : ∃ w6, (w5.alloc (.cells (encF f0).toArray 26)).setRow w5.heap.size (encF y).toArray = w6 := ⟨_, rfl⟩
            have hk6 : Blk w6 w5.heap.size (encF y).toArray 26 := by rw [← hw6]; exact hz.put _
            have hb6 : Below w5.heap.size w5 w6 := by rw [← hw6]; exact below_put (Nat.le_refl _) _ ((Below.refl _ w5).alloc (Nat.le_refl _) _)
            obtain ⟨gG, hgG⟩ : ∃ g, w5.heap.size = g := ⟨_, rfl⟩
            have K6 := Lib.hid ((K4.out.after hb5).after hb6)
            have HFS6 := Lib.hid ((HFS4.out.below hb5).below hb6)
            have HB6 := Lib.hid ((HB4.out.trans (hb5.mono HB4.out.size)).trans (hb6.mono (HB4.out.trans (hb5.mono HB4.out.size)).size))
            have Z := Lib.hid hz
            have HW6 := Lib.hid hw6
            have KG := Lib.hid hk6
            have HGG := Lib.hid hgG
            clear hz hw6 hk6 hb6 hb5 HM4 K4 HFS4 HB4 hgG
            go_wp2_with (first
              | (refine wpList_store_row rfl 26 (.tmp 12) (.tmp 86) rfl w5.heap.size (encF y).toArray rfl rfl 26 (encF f0).toArray Z.out size_fault rfl (encF_all _) ?_; change wpList _ _ _ _ _ ((w5.alloc (.cells (encF f0).toArray 26)).setRow w5.heap.size (encF y).toArray); rw [HW6.out]))
            obtain ⟨y1, ky, y3, y4⟩ := y
            have kg := KG.out
            rw [HGG.out] at kg
            have HC0 : Hid (CFi w (some ⟨b, off, none⟩) l gF gG k ky w6) := ⟨K6.out.lt, kg.lt, K6.out.cell 1, kg.cell 1, HFS6.out, HB6.out⟩
            have HNE : Hid ((ky != k) = true) := by show _ = _; rw [bne_iff_ne]; exact HO2.out
            simp only [HGG.out]
            clear kg
            go_wp2_with fail
            rename_i K0 hK0
            refine wp_region_list3 (SV (vsFF (some ⟨b, off, none⟩) i cap gF gG k ky) [97]) (BaseFF (some ⟨b, off, none⟩) i cap gF gG) (CFi w (some ⟨b, off, none⟩) l gF gG k ky) (Goes) (RV (vsFF (some ⟨b, off, none⟩) i cap gF gG k ky) (SpO 97 (others k l))) rfl (by kernel_rfl) (RV.ext SpO.ext) ?_ (HC0.out.call (Below.refl _ _).drew) (BaseFF.of _ (by kernel_rfl)) ?_ ?_
            · exact ⟨BaseFF.put88, BaseFF.put89, BaseFF.put90, BaseFF.put91, BaseFF.put92, BaseFF.put93, BaseFF.put94, BaseFF.put95, BaseFF.put96, BaseFF.put97, BaseFF.put98, BaseFF.put99, BaseFF.put100, BaseFF.put101, BaseFF.put102, BaseFF.put6, trivial⟩
            · refine ⟨?_, ?_, ?_, ?_, ?_, ?_, ?_, ?_, ?_, ?_, ?_, ?_, ?_, ?_, ?_, ?_, trivial⟩
              all_goals
                intro a w' hC hB hR
                obtain ⟨u, rfl⟩ := hB
                have HC := Lib.hid hC
                clear hC
                clear hK0
              · clear hR
                refine if_yes (by kernel_rfl) ?_
                unfold Oper.wp
                go_simp
                exact ⟨.pointer (some ⟨gG, 1, none⟩), rfl, HC.out, Below.refl _ _, rfl⟩
              · have h88 : u 88 = .pointer (some ⟨gG, 1, none⟩) := hR ⟨0, .data⟩ (by simp) rfl
                have hc : w'.cell? ⟨gG, 1, none⟩ = some (.int .i64 ky) := HC.out.cG
                clear hR
                simp only [h88]
                clear h88
                refine if_yes (by kernel_rfl) ?_
                unfold Oper.wp
                go_simp
                exact ⟨.int .i64 ky, rfl, HC.out, Below.refl _ _, rfl⟩
              · clear hR
                refine if_yes (by kernel_rfl) ?_
                unfold Oper.wp
                go_simp
                exact ⟨.pointer (some ⟨gF, 1, none⟩), rfl, HC.out, Below.refl _ _, rfl⟩
              · have h90 : u 90 = .pointer (some ⟨gF, 1, none⟩) := hR ⟨2, .data⟩ (by simp) rfl
                have hc : w'.cell? ⟨gF, 1, none⟩ = some (.int .i64 k) := HC.out.cF
                clear hR
                simp only [h90]
                clear h90
                refine if_yes (by kernel_rfl) ?_
                unfold Oper.wp
                go_simp
                exact ⟨.int .i64 k, rfl, HC.out, Below.refl _ _, rfl⟩
              · have h89 : u 89 = .int .i64 ky := hR ⟨1, .data⟩ (by simp) rfl
                have h91 : u 91 = .int .i64 k := hR ⟨3, .data⟩ (by simp) rfl
                have hne := HNE.out
                clear hR
                simp only [h89, h91]
                clear h89 h91
                refine if_yes (by kernel_rfl) ?_
                unfold Oper.wp
                go_simp
                exact ⟨.bool true, rfl, HC.out, Below.refl _ _, rfl⟩
              · have h92 : u 92 = .bool true := hR ⟨4, .data⟩ (by simp) rfl
                clear hR
                simp only [h92]
                clear h92
                refine if_yes (by kernel_rfl) ?_
                unfold Oper.wp
                go_simp
                exact ⟨.bool true, rfl, HC.out, Below.refl _ _, rfl⟩
              · have g93 : u 93 = .bool true := hR ⟨5, .guard⟩ (by simp) rfl
                clear hR
                simp only [g93]
                clear g93
                refine if_yes (by kernel_rfl) ?_
                unfold Oper.wp
                go_simp
                exact ⟨.slice (some ⟨b, off, none⟩) i cap, rfl, HC.out, Below.refl _ _, rfl⟩
              · have g93 : u 93 = .bool true := hR ⟨5, .guard⟩ (by simp) rfl
                clear hR
                simp only [g93]
                clear g93
                refine if_yes (by kernel_rfl) ?_
                unfold Oper.wp
                go_simp
                exact ⟨.pointer (some ⟨gF, 1, none⟩), rfl, HC.out, Below.refl _ _, rfl⟩
              · have g93 : u 93 = .bool true := hR ⟨5, .guard⟩ (by simp) rfl
                have h95 : u 95 = .pointer (some ⟨gF, 1, none⟩) := hR ⟨7, .data⟩ (by simp) rfl
                have hc : w'.cell? ⟨gF, 1, none⟩ = some (.int .i64 k) := HC.out.cF
                clear hR
                simp only [g93, h95]
                clear g93 h95
                refine if_yes (by kernel_rfl) ?_
                unfold Oper.wp
                go_simp
                exact ⟨.int .i64 k, rfl, HC.out, Below.refl _ _, rfl⟩
              · have g93 : u 93 = .bool true := hR ⟨5, .guard⟩ (by simp) rfl
                have h94 : u 94 = .slice (some ⟨b, off, none⟩) i cap := hR ⟨6, .data⟩ (by simp) rfl
                have h96 : u 96 = .int .i64 k := hR ⟨8, .data⟩ (by simp) rfl
                clear hR
                simp only [g93, h94, h96]
                clear g93 h94 h96
                refine if_yes (by kernel_rfl) ?_
                unfold Oper.wp
                go_simp
                refine (HWO.out _ HC.out.fs).mono ?_
                rintro r w2 ⟨oa2, cap2, rfl, hf2, hb2⟩
                exact ⟨.slice oa2 (others k l).length cap2, rfl, HC.out.call hb2, hb2, ⟨oa2, cap2, rfl, hf2⟩⟩
              · have g93 : u 93 = .bool true := hR ⟨5, .guard⟩ (by simp) rfl
                clear hR
                simp only [g93]
                clear g93
                refine if_yes (by kernel_rfl) ?_
                unfold Oper.wp
                go_simp
                exact ⟨.pointer (some ⟨gF, 1, none⟩), rfl, HC.out, Below.refl _ _, rfl⟩
              · have g93 : u 93 = .bool true := hR ⟨5, .guard⟩ (by simp) rfl
                have h98 : u 98 = .pointer (some ⟨gF, 1, none⟩) := hR ⟨10, .data⟩ (by simp) rfl
                have hc : w'.cell? ⟨gF, 1, none⟩ = some (.int .i64 k) := HC.out.cF
                clear hR
                simp only [g93, h98]
                clear g93 h98
                refine if_yes (by kernel_rfl) ?_
                unfold Oper.wp
                go_simp
                exact ⟨.int .i64 k, rfl, HC.out, Below.refl _ _, rfl⟩
              · have g93 : u 93 = .bool true := hR ⟨5, .guard⟩ (by simp) rfl
                have h99 : u 99 = .int .i64 k := hR ⟨11, .data⟩ (by simp) rfl
                obtain ⟨oa2, cap2, hg, hz⟩ := hR ⟨9, .data⟩ (by simp) rfl
                have hg : u 97 = .slice oa2 (others k l).length cap2 := hg
                clear hR
                simp only [g93, h99]
                clear g93 h99
                refine if_yes (by kernel_rfl) ?_
                simp only [hg]
                unfold Oper.wp
                go_simp
                refine (fa_count oa2 cap2 (others k l) HOL.out k 4611686018427387904 _ hz).mono ?_
                rintro r w2 ⟨rfl, hb2⟩
                rw [HCT.out]
                exact ⟨.int .i64 0, rfl, HC.out.call hb2, hb2, rfl⟩
              · have g93 : u 93 = .bool true := hR ⟨5, .guard⟩ (by simp) rfl
                have h100 : u 100 = .int .i64 0 := hR ⟨12, .data⟩ (by simp) rfl
                clear hR
                simp only [g93, h100]
                clear g93 h100
                refine if_yes (by kernel_rfl) ?_
                unfold Oper.wp
                go_simp
                exact ⟨.bool true, rfl, HC.out, Below.refl _ _, rfl⟩
              · have h93 : u 93 = .bool true := hR ⟨5, .data⟩ (by simp) rfl
                have h101 : u 101 = .bool true := hR ⟨13, .data⟩ (by simp) rfl
                clear hR
                simp only [h93, h101]
                clear h93 h101
                refine if_yes (by kernel_rfl) ?_
                unfold Oper.wp
                go_simp
                exact ⟨.bool true, rfl, HC.out, Below.refl _ _, rfl⟩
              · have h102 : u 102 = .bool true := hR ⟨14, .data⟩ (by simp) rfl
                clear hR
                simp only [h102]
                clear h102
                refine if_yes (by kernel_rfl) ?_
                unfold Oper.wp
                go_simp
                exact ⟨.bool true, rfl, HC.out, Below.refl _ _, rfl⟩
            · intro a' w' hC hB hR
              have h6 := hR 15 (by decide)
              obtain ⟨u, rfl⟩ := hB
              have h6 : u 6 = .bool true := h6
              simp only [h6]
              have HCE := Lib.hid hC.low
              clear hR h6
              go_wp2_with fail
              go_ret
              exact ⟨rfl, HCE.out⟩
          · have o1 : (op == 1) = false := by simpa using h1
            have o3 : (op != 1) = true := by simp [h1]
            have o2 : (k == 3) = false := by
              rw [beq_eq_false_iff_ne]; exact fun e => h1 (HREST.out.2 e)
            clear h1
            go_wp2_with fail
            refine HWR.out.mono ?_
            rintro r w4 ⟨oa2, cap2, rfl, hf4, hb4⟩
            have K4 := Lib.hid (KR.out.after hb4)
            have HFS4 := Lib.hid (HFSR.out.below hb4)
            have HB4 := Lib.hid (HBr.out.trans (hb4.mono HBr.out.size))
            have HM4 := Lib.hid (HMO.out oa2 cap2 w4 hf4)
            clear hf4 hb4 HWR c0 c1
            go_wp2_with fail
            refine HM4.out.mono ?_
            rintro r w5 ⟨rfl, hb5⟩
            have hz := Blk.new w5 (encF f0).toArray 26
            obtain ⟨w6, hw6⟩ : ∃ w6, (w5.alloc (.cells (encF f0).toArray 26)).setRow w5.heap.size (encF y).toArray = w6 := ⟨_, rfl⟩
            have hk6 : Blk w6 w5.heap.size (encF y).toArray 26 := by rw [← hw6]; exact hz.put _
            have hb6 : Below w5.heap.size w5 w6 := by rw [← hw6]; exact below_put (Nat.le_refl _) _ ((Below.refl _ w5).alloc (Nat.le_refl _) _)
            obtain ⟨gG, hgG⟩ : ∃ g, w5.heap.size = g := ⟨_, rfl⟩
            have K6 := Lib.hid ((K4.out.after hb5).after hb6)
            have HFS6 := Lib.hid ((HFS4.out.below hb5).below hb6)
            have HB6 := Lib.hid ((HB4.out.trans (hb5.mono HB4.out.size)).trans (hb6.mono (HB4.out.trans (hb5.mono HB4.out.size)).size))
            have Z := Lib.hid hz
            have HW6 := Lib.hid hw6
            have KG := Lib.hid hk6
            have HGG := Lib.hid hgG
            clear hz hw6 hk6 hb6 hb5 HM4 K4 HFS4 HB4 hgG
            go_wp2_with (first
              | (refine wpList_store_row rfl 26 (.tmp 12) (.tmp 86) rfl w5.heap.size (encF y).toArray rfl rfl 26 (encF f0).toArray Z.out size_fault rfl (encF_all _) ?_; change wpList _ _ _ _ _ ((w5.alloc (.cells (encF f0).toArray 26)).setRow w5.heap.size (encF y).toArray); rw [HW6.out]))
            obtain ⟨y1, ky, y3, y4⟩ := y
            have kg := KG.out
            rw [HGG.out] at kg
            have HC0 : Hid (CFi w (some ⟨b, off, none⟩) l gF gG k ky w6) := ⟨K6.out.lt, kg.lt, K6.out.cell 1, kg.cell 1, HFS6.out, HB6.out⟩
            have HNE : Hid ((ky != k) = true) := by show _ = _; rw [bne_iff_ne]; exact HO2.out
            simp only [HGG.out]
            clear kg
            go_wp2_with fail
            rename_i K0 hK0
            refine wp_region_list3 (SV (vsFF (some ⟨b, off, none⟩) i cap gF gG k ky) [97]) (BaseFF (some ⟨b, off, none⟩) i cap gF gG) (CFi w (some ⟨b, off, none⟩) l gF gG k ky) (Goes) (RV (vsFF (some ⟨b, off, none⟩) i cap gF gG k ky) (SpO 97 (others k l))) rfl (by kernel_rfl) (RV.ext SpO.ext) ?_ (HC0.out.call (Below.refl _ _).drew) (BaseFF.of _ (by kernel_rfl)) ?_ ?_
            · exact ⟨BaseFF.put88, BaseFF.put89, BaseFF.put90, BaseFF.put91, BaseFF.put92, BaseFF.put93, BaseFF.put94, BaseFF.put95, BaseFF.put96, BaseFF.put97, BaseFF.put98, BaseFF.put99, BaseFF.put100, BaseFF.put101, BaseFF.put102, BaseFF.put6, trivial⟩
            · refine ⟨?_, ?_, ?_, ?_, ?_, ?_, ?_, ?_, ?_, ?_, ?_, ?_, ?_, ?_, ?_, ?_, trivial⟩
              all_goals
                intro a w' hC hB hR
                obtain ⟨u, rfl⟩ := hB
                have HC := Lib.hid hC
                clear hC
                clear hK0
              · clear hR
                refine if_yes (by kernel_rfl) ?_
                unfold Oper.wp
                go_simp
                exact ⟨.pointer (some ⟨gG, 1, none⟩), rfl, HC.out, Below.refl _ _, rfl⟩
              · have h88 : u 88 = .pointer (some ⟨gG, 1, none⟩) := hR ⟨0, .data⟩ (by simp) rfl
                have hc : w'.cell? ⟨gG, 1, none⟩ = some (.int .i64 ky) := HC.out.cG
                clear hR
                simp only [h88]
                clear h88
                refine if_yes (by kernel_rfl) ?_
                unfold Oper.wp
                go_simp
                exact ⟨.int .i64 ky, rfl, HC.out, Below.refl _ _, rfl⟩
              · clear hR
                refine if_yes (by kernel_rfl) ?_
                unfold Oper.wp
                go_simp
                exact ⟨.pointer (some ⟨gF, 1, none⟩), rfl, HC.out, Below.refl _ _, rfl⟩
              · have h90 : u 90 = .pointer (some ⟨gF, 1, none⟩) := hR ⟨2, .data⟩ (by simp) rfl
                have hc : w'.cell? ⟨gF, 1, none⟩ = some (.int .i64 k) := HC.out.cF
                clear hR
                simp only [h90]
                clear h90
                refine if_yes (by kernel_rfl) ?_
                unfold Oper.wp
                go_simp
                exact ⟨.int .i64 k, rfl, HC.out, Below.refl _ _, rfl⟩
              · have h89 : u 89 = .int .i64 ky := hR ⟨1, .data⟩ (by simp) rfl
                have h91 : u 91 = .int .i64 k := hR ⟨3, .data⟩ (by simp) rfl
                have hne := HNE.out
                clear hR
                simp only [h89, h91]
                clear h89 h91
                refine if_yes (by kernel_rfl) ?_
                unfold Oper.wp
                go_simp
                exact ⟨.bool true, rfl, HC.out, Below.refl _ _, rfl⟩
              · have h92 : u 92 = .bool true := hR ⟨4, .data⟩ (by simp) rfl
                clear hR
                simp only [h92]
                clear h92
                refine if_yes (by kernel_rfl) ?_
                unfold Oper.wp
                go_simp
                exact ⟨.bool true, rfl, HC.out, Below.refl _ _, rfl⟩
              · have g93 : u 93 = .bool true := hR ⟨5, .guard⟩ (by simp) rfl
                clear hR
                simp only [g93]
                clear g93
                refine if_yes (by kernel_rfl) ?_
                unfold Oper.wp
                go_simp
                exact ⟨.slice (some ⟨b, off, none⟩) i cap, rfl, HC.out, Below.refl _ _, rfl⟩
              · have g93 : u 93 = .bool true := hR ⟨5, .guard⟩ (by simp) rfl
                clear hR
                simp only [g93]
                clear g93
                refine if_yes (by kernel_rfl) ?_
                unfold Oper.wp
                go_simp
                exact ⟨.pointer (some ⟨gF, 1, none⟩), rfl, HC.out, Below.refl _ _, rfl⟩
              · have g93 : u 93 = .bool true := hR ⟨5, .guard⟩ (by simp) rfl
                have h95 : u 95 = .pointer (some ⟨gF, 1, none⟩) := hR ⟨7, .data⟩ (by simp) rfl
                have hc : w'.cell? ⟨gF, 1, none⟩ = some (.int .i64 k) := HC.out.cF
                clear hR
                simp only [g93, h95]
                clear g93 h95
                refine if_yes (by kernel_rfl) ?_
                unfold Oper.wp
                go_simp
                exact ⟨.int .i64 k, rfl, HC.out, Below.refl _ _, rfl⟩
              · have g93 : u 93 = .bool true := hR ⟨5, .guard⟩ (by simp) rfl
                have h94 : u 94 = .slice (some ⟨b, off, none⟩) i cap := hR ⟨6, .data⟩ (by simp) rfl
                have h96 : u 96 = .int .i64 k := hR ⟨8, .data⟩ (by simp) rfl
                clear hR
                simp only [g93, h94, h96]
                clear g93 h94 h96
                refine if_yes (by kernel_rfl) ?_
                unfold Oper.wp
                go_simp
                refine (HWO.out _ HC.out.fs).mono ?_
                rintro r w2 ⟨oa2, cap2, rfl, hf2, hb2⟩
                exact ⟨.slice oa2 (others k l).length cap2, rfl, HC.out.call hb2, hb2, ⟨oa2, cap2, rfl, hf2⟩⟩
              · have g93 : u 93 = .bool true := hR ⟨5, .guard⟩ (by simp) rfl
                clear hR
                simp only [g93]
                clear g93
                refine if_yes (by kernel_rfl) ?_
                unfold Oper.wp
                go_simp
                exact ⟨.pointer (some ⟨gF, 1, none⟩), rfl, HC.out, Below.refl _ _, rfl⟩
              · have g93 : u 93 = .bool true := hR ⟨5, .guard⟩ (by simp) rfl
                have h98 : u 98 = .pointer (some ⟨gF, 1, none⟩) := hR ⟨10, .data⟩ (by simp) rfl
                have hc : w'.cell? ⟨gF, 1, none⟩ = some (.int .i64 k) := HC.out.cF
                clear hR
                simp only [g93, h98]
                clear g93 h98
                refine if_yes (by kernel_rfl) ?_
                unfold Oper.wp
                go_simp
                exact ⟨.int .i64 k, rfl, HC.out, Below.refl _ _, rfl⟩
              · have g93 : u 93 = .bool true := hR ⟨5, .guard⟩ (by simp) rfl
                have h99 : u 99 = .int .i64 k := hR ⟨11, .data⟩ (by simp) rfl
                obtain ⟨oa2, cap2, hg, hz⟩ := hR ⟨9, .data⟩ (by simp) rfl
                have hg : u 97 = .slice oa2 (others k l).length cap2 := hg
                clear hR
                simp only [g93, h99]
                clear g93 h99
                refine if_yes (by kernel_rfl) ?_
                simp only [hg]
                unfold Oper.wp
                go_simp
                refine (fa_count oa2 cap2 (others k l) HOL.out k 4611686018427387904 _ hz).mono ?_
                rintro r w2 ⟨rfl, hb2⟩
                rw [HCT.out]
                exact ⟨.int .i64 0, rfl, HC.out.call hb2, hb2, rfl⟩
              · have g93 : u 93 = .bool true := hR ⟨5, .guard⟩ (by simp) rfl
                have h100 : u 100 = .int .i64 0 := hR ⟨12, .data⟩ (by simp) rfl
                clear hR
                simp only [g93, h100]
                clear g93 h100
                refine if_yes (by kernel_rfl) ?_
                unfold Oper.wp
                go_simp
                exact ⟨.bool true, rfl, HC.out, Below.refl _ _, rfl⟩
              · have h93 : u 93 = .bool true := hR ⟨5, .data⟩ (by simp) rfl
                have h101 : u 101 = .bool true := hR ⟨13, .data⟩ (by simp) rfl
                clear hR
                simp only [h93, h101]
                clear h93 h101
                refine if_yes (by kernel_rfl) ?_
                unfold Oper.wp
                go_simp
                exact ⟨.bool true, rfl, HC.out, Below.refl _ _, rfl⟩
              · have h102 : u 102 = .bool true := hR ⟨14, .data⟩ (by simp) rfl
                clear hR
                simp only [h102]
                clear h102
                refine if_yes (by kernel_rfl) ?_
                unfold Oper.wp
                go_simp
                exact ⟨.bool true, rfl, HC.out, Below.refl _ _, rfl⟩
            · intro a' w' hC hB hR
              have h6 := hR 15 (by decide)
              obtain ⟨u, rfl⟩ := hB
              have h6 : u 6 = .bool true := h6
              simp only [h6]
              have HCE := Lib.hid hC.low
              clear hR h6
              go_wp2_with fail
              go_ret
              exact ⟨rfl, HCE.out⟩

end Go.Proofs.Ytbpkaegkcknemaa
