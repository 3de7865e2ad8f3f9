/- Layer 9, the laws: FaultMeets. -/
import Derived.Test.YtbpkaegkcknemaaFaL1
import Derived.Test.YtbpkaegkcknemaaFaE
namespace Go.Proofs.Ytbpkaegkcknemaa
set_option maxRecDepth 100000
open Go.RowKit Go.Shelf Go.Proofs

/-- what each operation of the region FM leaves -/
def vsFM (b off n cap i : Nat) (s : ByteArray) (x : Fa) : List (Option (Tmp × Value)) :=
  [some (44, .string s), some (45, .slice (some ⟨b, off, none⟩) n cap), some (46, .int .i64 (i : Int)), some (47, .pointer (some ⟨b, off + i * 4, none⟩)), some (48, .agg (encF x).toArray), some (49, .string (flipF s x)), some (50, .string s), some (51, .slice (some ⟨b, off, none⟩) n cap), some (52, .int .i64 (i : Int)), some (53, .pointer (some ⟨b, off + i * 4, none⟩)), some (54, .agg (encF x).toArray), some (55, .string (flipF s x)), some (56, .bool false)]
/-- the frame while the region FM runs -/
def BaseFM (b off n cap i : Nat) (s : ByteArray) (arr0 : Array Value) (a : Act) : Prop := ∃ u : Nat → Value, a = ⟨#[.slice (some ⟨b, off, none⟩) n cap, arr0.getD 1 undef, .string s, arr0.getD 3 undef, arr0.getD 4 undef, arr0.getD 5 undef, arr0.getD 6 undef, arr0.getD 7 undef, arr0.getD 8 undef, arr0.getD 9 undef, arr0.getD 10 undef, .int .i64 (i : Int), arr0.getD 12 undef, arr0.getD 13 undef, arr0.getD 14 undef, arr0.getD 15 undef, arr0.getD 16 undef, arr0.getD 17 undef, arr0.getD 18 undef, arr0.getD 19 undef, arr0.getD 20 undef, arr0.getD 21 undef, arr0.getD 22 undef, arr0.getD 23 undef, arr0.getD 24 undef, arr0.getD 25 undef, arr0.getD 26 undef, arr0.getD 27 undef, arr0.getD 28 undef, arr0.getD 29 undef, arr0.getD 30 undef, arr0.getD 31 undef, arr0.getD 32 undef, arr0.getD 33 undef, arr0.getD 34 undef, arr0.getD 35 undef, arr0.getD 36 undef, arr0.getD 37 undef, arr0.getD 38 undef, arr0.getD 39 undef, arr0.getD 40 undef, arr0.getD 41 undef, arr0.getD 42 undef, arr0.getD 43 undef, u 44, u 45, u 46, u 47, u 48, u 49, u 50, u 51, u 52, u 53, u 54, u 55, u 56, arr0.getD 57 undef, arr0.getD 58 undef, arr0.getD 59 undef, arr0.getD 60 undef, arr0.getD 61 undef, arr0.getD 62 undef, arr0.getD 63 undef, arr0.getD 64 undef, arr0.getD 65 undef, arr0.getD 66 undef, arr0.getD 67 undef, arr0.getD 68 undef], []⟩
theorem BaseFM.of {b off n cap i : Nat} {s : ByteArray} {arr0 : Array Value} (arr : Array Value) (h : arr = #[.slice (some ⟨b, off, none⟩) n cap, arr0.getD 1 undef, .string s, arr0.getD 3 undef, arr0.getD 4 undef, arr0.getD 5 undef, arr0.getD 6 undef, arr0.getD 7 undef, arr0.getD 8 undef, arr0.getD 9 undef, arr0.getD 10 undef, .int .i64 (i : Int), arr0.getD 12 undef, arr0.getD 13 undef, arr0.getD 14 undef, arr0.getD 15 undef, arr0.getD 16 undef, arr0.getD 17 undef, arr0.getD 18 undef, arr0.getD 19 undef, arr0.getD 20 undef, arr0.getD 21 undef, arr0.getD 22 undef, arr0.getD 23 undef, arr0.getD 24 undef, arr0.getD 25 undef, arr0.getD 26 undef, arr0.getD 27 undef, arr0.getD 28 undef, arr0.getD 29 undef, arr0.getD 30 undef, arr0.getD 31 undef, arr0.getD 32 undef, arr0.getD 33 undef, arr0.getD 34 undef, arr0.getD 35 undef, arr0.getD 36 undef, arr0.getD 37 undef, arr0.getD 38 undef, arr0.getD 39 undef, arr0.getD 40 undef, arr0.getD 41 undef, arr0.getD 42 undef, arr0.getD 43 undef, arr.getD 44 undef, arr.getD 45 undef, arr.getD 46 undef, arr.getD 47 undef, arr.getD 48 undef, arr.getD 49 undef, arr.getD 50 undef, arr.getD 51 undef, arr.getD 52 undef, arr.getD 53 undef, arr.getD 54 undef, arr.getD 55 undef, arr.getD 56 undef, arr0.getD 57 undef, arr0.getD 58 undef, arr0.getD 59 undef, arr0.getD 60 undef, arr0.getD 61 undef, arr0.getD 62 undef, arr0.getD 63 undef, arr0.getD 64 undef, arr0.getD 65 undef, arr0.getD 66 undef, arr0.getD 67 undef, arr0.getD 68 undef]) : BaseFM b off n cap i s arr0 ⟨arr, []⟩ := ⟨fun i => arr.getD i undef, by rw [← h]⟩
theorem BaseFM.put44 {b off n cap i : Nat} {s : ByteArray} {arr0 : Array Value} (a : Act) (v : Value) (h : BaseFM b off n cap i s arr0 a) : BaseFM b off n cap i s arr0 (a.put (some 44) v) := by
  obtain ⟨u, rfl⟩ := h
  exact ⟨fun i => if i = 44 then v else u i, by kernel_rfl⟩
theorem BaseFM.put45 {b off n cap i : Nat} {s : ByteArray} {arr0 : Array Value} (a : Act) (v : Value) (h : BaseFM b off n cap i s arr0 a) : BaseFM b off n cap i s arr0 (a.put (some 45) v) := by
  obtain ⟨u, rfl⟩ := h
  exact ⟨fun i => if i = 45 then v else u i, by kernel_rfl⟩
theorem BaseFM.put46 {b off n cap i : Nat} {s : ByteArray} {arr0 : Array Value} (a : Act) (v : Value) (h : BaseFM b off n cap i s arr0 a) : BaseFM b off n cap i s arr0 (a.put (some 46) v) := by
  obtain ⟨u, rfl⟩ := h
  exact ⟨fun i => if i = 46 then v else u i, by kernel_rfl⟩
theorem BaseFM.put47 {b off n cap i : Nat} {s : ByteArray} {arr0 : Array Value} (a : Act) (v : Value) (h : BaseFM b off n cap i s arr0 a) : BaseFM b off n cap i s arr0 (a.put (some 47) v) := by
  obtain ⟨u, rfl⟩ := h
  exact ⟨fun i => if i = 47 then v else u i, by kernel_rfl⟩
theorem BaseFM.put48 {b off n cap i : Nat} {s : ByteArray} {arr0 : Array Value} (a : Act) (v : Value) (h : BaseFM b off n cap i s arr0 a) : BaseFM b off n cap i s arr0 (a.put (some 48) v) := by
  obtain ⟨u, rfl⟩ := h
  exact ⟨fun i => if i = 48 then v else u i, by kernel_rfl⟩
theorem BaseFM.put49 {b off n cap i : Nat} {s : ByteArray} {arr0 : Array Value} (a : Act) (v : Value) (h : BaseFM b off n cap i s arr0 a) : BaseFM b off n cap i s arr0 (a.put (some 49) v) := by
  obtain ⟨u, rfl⟩ := h
  exact ⟨fun i => if i = 49 then v else u i, by kernel_rfl⟩
theorem BaseFM.put50 {b off n cap i : Nat} {s : ByteArray} {arr0 : Array Value} (a : Act) (v : Value) (h : BaseFM b off n cap i s arr0 a) : BaseFM b off n cap i s arr0 (a.put (some 50) v) := by
  obtain ⟨u, rfl⟩ := h
  exact ⟨fun i => if i = 50 then v else u i, by kernel_rfl⟩
theorem BaseFM.put51 {b off n cap i : Nat} {s : ByteArray} {arr0 : Array Value} (a : Act) (v : Value) (h : BaseFM b off n cap i s arr0 a) : BaseFM b off n cap i s arr0 (a.put (some 51) v) := by
  obtain ⟨u, rfl⟩ := h
  exact ⟨fun i => if i = 51 then v else u i, by kernel_rfl⟩
theorem BaseFM.put52 {b off n cap i : Nat} {s : ByteArray} {arr0 : Array Value} (a : Act) (v : Value) (h : BaseFM b off n cap i s arr0 a) : BaseFM b off n cap i s arr0 (a.put (some 52) v) := by
  obtain ⟨u, rfl⟩ := h
  exact ⟨fun i => if i = 52 then v else u i, by kernel_rfl⟩
theorem BaseFM.put53 {b off n cap i : Nat} {s : ByteArray} {arr0 : Array Value} (a : Act) (v : Value) (h : BaseFM b off n cap i s arr0 a) : BaseFM b off n cap i s arr0 (a.put (some 53) v) := by
  obtain ⟨u, rfl⟩ := h
  exact ⟨fun i => if i = 53 then v else u i, by kernel_rfl⟩
theorem BaseFM.put54 {b off n cap i : Nat} {s : ByteArray} {arr0 : Array Value} (a : Act) (v : Value) (h : BaseFM b off n cap i s arr0 a) : BaseFM b off n cap i s arr0 (a.put (some 54) v) := by
  obtain ⟨u, rfl⟩ := h
  exact ⟨fun i => if i = 54 then v else u i, by kernel_rfl⟩
theorem BaseFM.put55 {b off n cap i : Nat} {s : ByteArray} {arr0 : Array Value} (a : Act) (v : Value) (h : BaseFM b off n cap i s arr0 a) : BaseFM b off n cap i s arr0 (a.put (some 55) v) := by
  obtain ⟨u, rfl⟩ := h
  exact ⟨fun i => if i = 55 then v else u i, by kernel_rfl⟩
theorem BaseFM.put56 {b off n cap i : Nat} {s : ByteArray} {arr0 : Array Value} (a : Act) (v : Value) (h : BaseFM b off n cap i s arr0 a) : BaseFM b off n cap i s arr0 (a.put (some 56) v) := by
  obtain ⟨u, rfl⟩ := h
  exact ⟨fun i => if i = 56 then v else u i, by kernel_rfl⟩

set_option maxHeartbeats 4000000 in
theorem walk_FaultMeets (oa : Option Addr) (cap : Nat) (l : List Fa) (a1 a2 : Int) (s : ByteArray) (hl : l.length ≤ maxLen) (_ : (Lit.int .i64 a1).wf = true) (_ : (Lit.int .i64 a2).wf = true) (hs : s.size ≤ maxLen) (w : World) (ha : FsAt w oa l) :
    Calls Try.prog 3 #[.slice oa l.length cap, .agg #[.int .i64 a1, .int .i64 a2], .string s] w fun e w' => e = .returned (.bool true) ∧ Below w.heap.size w w' := by
  have hs2 : (s.size : Int) ≤ 9223372036854775807 := by unfold maxLen at hs; omega
  have hl2 : (l.length : Int) ≤ 9223372036854775807 := by unfold maxLen at hl; omega
  have hk := Blk.new w #[.int .i64 a1, .int .i64 a2] 23
  obtain ⟨w1, hw1⟩ : ∃ w1, w.alloc (.cells #[.int .i64 a1, .int .i64 a2] 23) = w1 := ⟨_, rfl⟩
  rw [hw1] at hk
  have hb1 : Below w.heap.size w w1 := by rw [← hw1]; exact (Below.refl _ w).alloc (Nat.le_refl _) _
  have HB1 := Lib.hid hb1
  have K1 := Lib.hid hk
  have HFS := Lib.hid (ha.below hb1)
  have HL := Lib.hid hl
  have HW := Lib.hid hw1
  have HSZ0 := Lib.hid hs
  obtain ⟨n, hn⟩ : ∃ n, l.length = n := ⟨_, rfl⟩
  have HN := Lib.hid hn
  have HM1 := Lib.hid (fun w ha => fa_meets oa cap l hl a1 a2 w ha)
  have HM2 := Lib.hid (fun w ha => rfa_meets oa cap l hl a1 a2 w ha)
  rw [hn] at hl2 HM1 HM2 ⊢
  obtain ⟨o, ho⟩ : ∃ o, meetF l a1 a2 = o := ⟨_, rfl⟩
  rw [ho] at HM1 HM2
  clear hk hb1 hw1 hn ha hl hs ho
  by_cases hbig : 300 < n ∨ 1000 < s.size
  · have cut : ((300 : Int) < (n : Int)) ∨ (¬ (300 : Int) < (n : Int) ∧ (1000 : Int) < (s.size : Int)) := by omega
    clear hbig
    rcases cut with hc | ⟨hc, hc2⟩
    · have hcb : decide ((300 : Int) < (n : Int)) = true := decide_eq_true hc
      go_enter Try.func3, Try.ntmps3
      go_wp2_with fail
      change Calls _ _ _ (w.alloc (.cells #[.int .i64 a1, .int .i64 a2] 23)) _
      rw [HW.out]
      refine (fa_works w1).mono ?_
      rintro r w2 ⟨rfl, hb2⟩
      have HB2 := Lib.hid (HB1.out.trans (hb2.mono HB1.out.size))
      clear hb2
      go_wp2_with fail
      go_ret
      exact ⟨rfl, HB2.out⟩
    · have hcb : decide ((300 : Int) < (n : Int)) = false := decide_eq_false hc
      have hcb2 : decide ((1000 : Int) < (s.size : Int)) = true := decide_eq_true hc2
      go_enter Try.func3, Try.ntmps3
      go_wp2_with fail
      change Calls _ _ _ (w.alloc (.cells #[.int .i64 a1, .int .i64 a2] 23)) _
      rw [HW.out]
      refine (fa_works w1).mono ?_
      rintro r w2 ⟨rfl, hb2⟩
      have HB2 := Lib.hid (HB1.out.trans (hb2.mono HB1.out.size))
      clear hb2
      go_wp2_with fail
      go_ret
      exact ⟨rfl, HB2.out⟩
  · have hc : ¬ (300 : Int) < (n : Int) := by omega
    have hc2 : ¬ (1000 : Int) < (s.size : Int) := by omega
    have hcb : decide ((300 : Int) < (n : Int)) = false := decide_eq_false hc
    have hcb2 : decide ((1000 : Int) < (s.size : Int)) = false := decide_eq_false hc2
    have HSZ : Hid (s.size ≤ 1000) := by show _ ≤ _; omega
    have hn300 : n ≤ 300 := by omega
    clear hbig
    have q0 : w1.cell? ⟨w.heap.size, 0, none⟩ = some (.int .i64 a1) := K1.out.cell 0
    have q1 : w1.cell? ⟨w.heap.size, 1, none⟩ = some (.int .i64 a2) := K1.out.cell 1
    go_enter Try.func3, Try.ntmps3
    go_wp2_with fail
    change Calls _ _ _ (w.alloc (.cells #[.int .i64 a1, .int .i64 a2] 23)) _
    rw [HW.out]
    refine (HM1.out w1 HFS.out).mono ?_
    rintro r w2 ⟨rfl, hb2⟩
    have K2 := Lib.hid (K1.out.after hb2)
    have HFS2 := Lib.hid (HFS.out.below hb2)
    have HB2 := Lib.hid (HB1.out.trans (hb2.mono HB1.out.size))
    unfold meetV
    unfold meetV at HM2
    obtain ⟨y, hy⟩ : ∃ y, o.getD f0 = y := ⟨_, rfl⟩
    obtain ⟨ok, hok⟩ : ∃ ok, o.isSome = ok := ⟨_, rfl⟩
    rw [hy, hok]
    rw [hy, hok] at HM2
    clear hb2 HM1 hy hok q0 q1 HW HFS K1 HB1
    have hz := Blk.new w2 (encF f0).toArray 26
    obtain ⟨w3, hw3⟩ : ∃ w3, (w2.alloc (.cells (encF f0).toArray 26)).setRow w2.heap.size (encF y).toArray = w3 := ⟨_, rfl⟩
    have hk3 : Blk w3 w2.heap.size (encF y).toArray 26 := by rw [← hw3]; exact hz.put _
    have hb3 : Below w2.heap.size w2 w3 := by rw [← hw3]; exact below_put (Nat.le_refl _) _ ((Below.refl _ w2).alloc (Nat.le_refl _) _)
    have q0 : w3.cell? ⟨w.heap.size, 0, none⟩ = some (.int .i64 a1) := (K2.out.after hb3).cell 0
    have q1 : w3.cell? ⟨w.heap.size, 1, none⟩ = some (.int .i64 a2) := (K2.out.after hb3).cell 1
    have Z := Lib.hid hz
    have HW3 := Lib.hid hw3
    have K3 := Lib.hid hk3
    have HFS3 := Lib.hid (HFS2.out.below hb3)
    have HB3 := Lib.hid (HB2.out.trans (hb3.mono HB2.out.size))
    clear hz hw3 hk3 hb3 K2 HFS2 HB2
    go_wp2_with (first
      | (refine wpList_store_row rfl 26 (.tmp 7) (.tmp 28) rfl w2.heap.size (encF y).toArray rfl rfl 26 (encF f0).toArray Z.out size_fault rfl (encF_all _) ?_; change wpList _ _ _ _ _ ((w2.alloc (.cells (encF f0).toArray 26)).setRow w2.heap.size (encF y).toArray); rw [HW3.out]))
    refine (HM2.out w3 HFS3.out).mono ?_
    rintro r w4 ⟨rfl, hb4⟩
    have K4 := Lib.hid (K3.out.after hb4)
    have HFS4 := Lib.hid (HFS3.out.below hb4)
    have HB4 := Lib.hid (HB3.out.trans (hb4.mono HB3.out.size))
    clear hb4 HM2 q0 q1 HW3 HFS3 K3 HB3 Z
    have hz := Blk.new w4 (encF f0).toArray 26
    obtain ⟨w5, hw5⟩ : ∃ w5, (w4.alloc (.cells (encF f0).toArray 26)).setRow w4.heap.size (encF y).toArray = w5 := ⟨_, rfl⟩
    have hk5 : Blk w5 w4.heap.size (encF y).toArray 26 := by rw [← hw5]; exact hz.put _
    have hb5 : Below w4.heap.size w4 w5 := by rw [← hw5]; exact below_put (Nat.le_refl _) _ ((Below.refl _ w4).alloc (Nat.le_refl _) _)
    have Z := Lib.hid hz
    have HW5 := Lib.hid hw5
    have K5 := Lib.hid hk5
    have K53 := Lib.hid (K4.out.after hb5)
    have HFS5 := Lib.hid (HFS4.out.below hb5)
    have HB5 := Lib.hid (HB4.out.trans (hb5.mono HB4.out.size))
    clear hz hw5 hk5 hb5 K4 HFS4 HB4
    have HOA : Hid (n = 0 ∨ ∃ b off, oa = some ⟨b, off, none⟩ ∧ b < w5.heap.size ∧ ∀ i (hi : i < l.length), w5.rangeAt b (off + i * 4) (encF l[i])) := by
      by_cases h0 : l = []
      · left; rw [← HN.out, h0]; rfl
      · right; exact HFS5.out h0
    go_wp2_with (first
      | (refine wpList_store_row rfl 26 (.tmp 9) (.tmp 37) rfl w4.heap.size (encF y).toArray rfl rfl 26 (encF f0).toArray Z.out size_fault rfl (encF_all _) ?_; change wpList _ _ _ _ _ ((w4.alloc (.cells (encF f0).toArray 26)).setRow w4.heap.size (encF y).toArray); rw [HW5.out]))
    obtain ⟨g3, hg3⟩ : ∃ g, w2.heap.size = g := ⟨_, rfl⟩
    obtain ⟨g5, hg5⟩ : ∃ g, w4.heap.size = g := ⟨_, rfl⟩
    rw [hg3] at K53
    rw [hg5] at K5
    simp only [hg3, hg5]
    clear Z HW5 hg3 hg5
    have atEnd : ∀ wr, Below w5.heap.size w5 wr → True := fun _ _ => trivial
    clear atEnd
    rcases HOA.out with h0 | ⟨b, off, rfl, hb, hc⟩
    · subst h0
      clear HOA
      refine wp_loop_rounds 1 ?_
      rw [rounds_succ]
      go_wp2_with (first
        | (refine wpList_load_row rfl 26 (.tmp 7) rfl g3 rfl 26 (encF y).toArray (0, 0) _ K53.out Try.underlying26 rfl size_fault ?_)
        | (refine wpList_load_row rfl 26 (.tmp 9) rfl g5 rfl 26 (encF y).toArray (0, 0) _ K5.out Try.underlying26 rfl size_fault ?_)
        | (refine wpList_eql_fault rfl (.tmp 58) (.tmp 59) rfl y y rfl rfl ?_; rw [eqF_self]))
      refine (fa_works w5).mono ?_
      rintro r w6 ⟨rfl, hb6⟩
      have HB6 := Lib.hid (HB5.out.trans (hb6.mono HB5.out.size))
      clear hb6
      go_wp2_with fail
      go_ret
      exact ⟨rfl, HB6.out⟩
    · have HC5 : Hid (∀ i (hi : i < l.length), w5.rangeAt b (off + i * 4) (encF l[i])) := hc
      clear hc HOA
      go_loopg [11, 41] n (fun kx s11 s41 wr => ∃ i : Nat, s41 = .int .i64 i ∧ i ≤ n ∧ n - i ≤ kx ∧ Hid (Below w5.heap.size w5 wr))
      case atStart => exact ⟨0, rfl, Nat.zero_le _, Nat.le_refl _, Below.refl _ _⟩
      case round =>
        obtain ⟨i, rfl, hi, hkx, HBR⟩ := hrel
        by_cases hlt : i < n
        · have hltz : (i : Int) < (n : Int) := by omega
          have hil : i < l.length := by have := HN.out; omega
          have hr : wr.rangeAt b (off + i * 4) (encF l[i]) := fun t v hv => by
            rw [World.cell?_of_block (w := w5) (HBR.out.block b hb)]; exact HC5.out i hil t v hv
          have HLT : Hid ((i : Int) < (n : Int)) := hltz
          generalize l[i] = x at hr
          have HC0 : Hid (CM w5 b (off + i * 4) x wr) := ⟨hr, Nat.lt_of_lt_of_le hb HBR.out.size, HBR.out⟩
          clear hr hil HBR
          go_wp2_with fail
          rename_i K0 hK0
          generalize hA : (⟨_, _⟩ : Act) = A
          have HA := Lib.hid hA
          have HBT : Hid (BaseFM b off n cap i s A.tmps A) := by
            show BaseFM _ _ _ _ _ _ _ _
            rw [← hA]
            exact BaseFM.of _ (by kernel_rfl)
          clear hA
          refine wp_region_list3 (SV (vsFM b off n cap i s x) []) (BaseFM b off n cap i s A.tmps) (CM w5 b (off + i * 4) x) (Goes) (RV (vsFM b off n cap i s x) (fun _ _ _ => False)) rfl (by kernel_rfl) (RV.ext no_specialF) ?_ (HC0.out.call (Below.refl _ _).drew) HBT.out ?_ ?_
          · exact ⟨BaseFM.put44, BaseFM.put45, BaseFM.put46, BaseFM.put47, BaseFM.put48, BaseFM.put49, BaseFM.put50, BaseFM.put51, BaseFM.put52, BaseFM.put53, BaseFM.put54, BaseFM.put55, BaseFM.put56, trivial⟩
          · refine ⟨?_, ?_, ?_, ?_, ?_, ?_, ?_, ?_, ?_, ?_, ?_, ?_, ?_, trivial⟩
            all_goals
              intro a w' hC hB hR
              obtain ⟨u, rfl⟩ := hB
              have HC := Lib.hid hC
              clear hC
              clear hK0
            · clear hR
              refine if_yes (by kernel_rfl) ?_
              unfold Oper.wp
              go_simp
              exact ⟨.string s, rfl, HC.out, Below.refl _ _, rfl⟩
            · clear hR
              refine if_yes (by kernel_rfl) ?_
              unfold Oper.wp
              go_simp
              exact ⟨.slice (some ⟨b, off, none⟩) n cap, rfl, HC.out, Below.refl _ _, rfl⟩
            · clear hR
              refine if_yes (by kernel_rfl) ?_
              unfold Oper.wp
              go_simp
              exact ⟨.int .i64 (i : Int), rfl, HC.out, Below.refl _ _, rfl⟩
            · have h45 : u 45 = .slice (some ⟨b, off, none⟩) n cap := hR ⟨1, .data⟩ (by simp) rfl
              have h46 : u 46 = .int .i64 (i : Int) := hR ⟨2, .data⟩ (by simp) rfl
              have hlt2 := HLT.out
              clear hR
              simp only [h45, h46]
              clear h45 h46
              refine if_yes (by kernel_rfl) ?_
              unfold Oper.wp
              go_simp
              exact ⟨.pointer (some ⟨b, off + i * 4, none⟩), rfl, HC.out, Below.refl _ _, rfl⟩
            · have h47 : u 47 = .pointer (some ⟨b, off + i * 4, none⟩) := hR ⟨3, .data⟩ (by simp) rfl
              clear hR
              simp only [h47]
              clear h47
              refine if_yes (by kernel_rfl) ?_
              exact wp_load_mid 26 (.tmp 47) rfl b (off + i * 4) rfl (encF x) _ HC.out.1 Try.underlying26 rfl size_fault ⟨.agg (encF x).toArray, rfl, HC.out, Below.refl _ _, rfl⟩
            · have h44 : u 44 = .string s := hR ⟨0, .data⟩ (by simp) rfl
              have h48 : u 48 = .agg (encF x).toArray := hR ⟨4, .data⟩ (by simp) rfl
              clear hR
              simp only [h44, h48]
              clear h44 h48
              refine if_yes (by kernel_rfl) ?_
              unfold Oper.wp
              go_simp
              refine (fa_flipped s x _ HSZ.out).mono ?_
              rintro r w2 ⟨rfl, hb2⟩
              exact ⟨.string (flipF s x), rfl, HC.out.call hb2, hb2, rfl⟩
            · clear hR
              refine if_yes (by kernel_rfl) ?_
              unfold Oper.wp
              go_simp
              exact ⟨.string s, rfl, HC.out, Below.refl _ _, rfl⟩
            · clear hR
              refine if_yes (by kernel_rfl) ?_
              unfold Oper.wp
              go_simp
              exact ⟨.slice (some ⟨b, off, none⟩) n cap, rfl, HC.out, Below.refl _ _, rfl⟩
            · clear hR
              refine if_yes (by kernel_rfl) ?_
              unfold Oper.wp
              go_simp
              exact ⟨.int .i64 (i : Int), rfl, HC.out, Below.refl _ _, rfl⟩
            · have h51 : u 51 = .slice (some ⟨b, off, none⟩) n cap := hR ⟨7, .data⟩ (by simp) rfl
              have h52 : u 52 = .int .i64 (i : Int) := hR ⟨8, .data⟩ (by simp) rfl
              have hlt2 := HLT.out
              clear hR
              simp only [h51, h52]
              clear h51 h52
              refine if_yes (by kernel_rfl) ?_
              unfold Oper.wp
              go_simp
              exact ⟨.pointer (some ⟨b, off + i * 4, none⟩), rfl, HC.out, Below.refl _ _, rfl⟩
            · have h53 : u 53 = .pointer (some ⟨b, off + i * 4, none⟩) := hR ⟨9, .data⟩ (by simp) rfl
              clear hR
              simp only [h53]
              clear h53
              refine if_yes (by kernel_rfl) ?_
              exact wp_load_mid 26 (.tmp 53) rfl b (off + i * 4) rfl (encF x) _ HC.out.1 Try.underlying26 rfl size_fault ⟨.agg (encF x).toArray, rfl, HC.out, Below.refl _ _, rfl⟩
            · have h50 : u 50 = .string s := hR ⟨6, .data⟩ (by simp) rfl
              have h54 : u 54 = .agg (encF x).toArray := hR ⟨10, .data⟩ (by simp) rfl
              clear hR
              simp only [h50, h54]
              clear h50 h54
              refine if_yes (by kernel_rfl) ?_
              unfold Oper.wp
              go_simp
              refine (rfa_flipped s x _ HSZ.out).mono ?_
              rintro r w2 ⟨rfl, hb2⟩
              exact ⟨.string (flipF s x), rfl, HC.out.call hb2, hb2, rfl⟩
            · have h49 : u 49 = .string (flipF s x) := hR ⟨5, .data⟩ (by simp) rfl
              have h55 : u 55 = .string (flipF s x) := hR ⟨11, .data⟩ (by simp) rfl
              clear hR
              simp only [h49, h55]
              clear h49 h55
              refine if_yes (by kernel_rfl) ?_
              unfold Oper.wp
              go_simp
              exact ⟨.bool false, rfl, HC.out, Below.refl _ _, rfl⟩
          · intro a' w' hC hB hR
            have h56 := hR 12 (by decide)
            obtain ⟨u, rfl⟩ := hB
            have h56 : u 56 = .bool false := h56
            simp only [h56]
            have HBR2 : Hid (Below w5.heap.size w5 w') := hC.2.2
            clear hR h56
            rw [← HA.out]
            clear HA HBT
            go_wp2_with fail
            go_roundg (n - (i + 1))
            case measure => omega
            case rel => exact ⟨i + 1, by go_num, by omega, Nat.le_refl _, HBR2⟩
        · obtain rfl : i = n := by omega
          have hltz : ¬ (i : Int) < (i : Int) := by omega
          have K53r := Lib.hid (K53.out.after HBR.out)
          have K5r := Lib.hid (K5.out.after HBR.out)
          have HBr := Lib.hid (HB5.out.trans (HBR.out.mono HB5.out.size))
          clear HBR
          go_wp2_with (first
            | (refine wpList_load_row rfl 26 (.tmp 7) rfl g3 rfl 26 (encF y).toArray (0, 0) _ K53r.out Try.underlying26 rfl size_fault ?_)
            | (refine wpList_load_row rfl 26 (.tmp 9) rfl g5 rfl 26 (encF y).toArray (0, 0) _ K5r.out Try.underlying26 rfl size_fault ?_)
            | (refine wpList_eql_fault rfl (.tmp 58) (.tmp 59) rfl y y rfl rfl ?_; rw [eqF_self]))
          refine (fa_works wr).mono ?_
          rintro r w6 ⟨rfl, hb6⟩
          have HB6 := Lib.hid (HBr.out.trans (hb6.mono HBr.out.size))
          clear hb6
          go_wp2_with fail
          go_ret
          exact ⟨rfl, HB6.out⟩

end Go.Proofs.Ytbpkaegkcknemaa
