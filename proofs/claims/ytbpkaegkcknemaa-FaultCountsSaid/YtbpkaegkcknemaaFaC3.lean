/- Package fault and its reference, walked: how many of a kind come ahead of an operation; the reference's Meets; the chapter's example. -/
import Derived.Test.YtbpkaegkcknemaaFaC2
namespace Go.Proofs.Ytbpkaegkcknemaa
set_option maxRecDepth 100000
open Go.RowKit Go.Shelf Go.Proofs

def cntB (k b : Int) (x : Fa) : Bool := decide (x.2.1 = k ∧ 0 ≤ x.1 ∧ x.1 < b)
def cntF (k b : Int) (l : List Fa) : Nat := l.countP (cntB k b)
theorem cntF_le (k b : Int) (l : List Fa) : cntF k b l ≤ l.length := List.countP_le_length
theorem cntF_take (k b : Int) (l : List Fa) (i : Nat) (hi : i < l.length) : cntF k b (l.take (i + 1)) = cntF k b (l.take i) + if cntB k b l[i] then 1 else 0 := by
  unfold cntF
  rw [List.take_add_one, List.getElem?_eq_getElem hi, Option.toList_some, List.countP_append, List.countP_singleton]
theorem cntF_all (k b : Int) (l : List Fa) : cntF k b (l.take l.length) = cntF k b l := by rw [List.take_length]

set_option maxHeartbeats 2000000 in
theorem fa_count (oa : Option Addr) (cap : Nat) (l : List Fa) (hl : l.length ≤ maxLen) (k b : Int) (w : World) (ha : FsAt w oa l) :
    Calls Try.prog 15 #[.slice oa l.length cap, .int .i64 k, .int .i64 b] w fun e w' => e = .returned (.int .i64 (cntF k b l : Nat)) ∧ Below w.heap.size w w' := by
  by_cases h0 : l = []
  · subst h0
    show Calls Try.prog _ #[.slice oa 0 cap, .int .i64 k, .int .i64 b] w fun e w' => e = .returned (.int .i64 0) ∧ Below w.heap.size w w'
    clear ha
    go_enter Try.func15, Try.ntmps15
    go_wp2
    refine wp_loop_rounds 1 ?_
    rw [rounds_succ]
    go_wp2
    go_ret
    exact ⟨rfl, Below.refl _ _⟩
  · obtain ⟨B, off, rfl, hB, hc⟩ := ha h0
    have HC : Hid (∀ i (hi : i < l.length), w.rangeAt B (off + i * 4) (encF l[i])) := hc
    obtain ⟨n, hn⟩ : ∃ n, l.length = n := ⟨_, rfl⟩
    have HN := Lib.hid hn
    have hn2 : (n : Int) ≤ 9223372036854775807 := by unfold maxLen at hl; omega
    rw [hn]
    clear hn hc ha hl h0
    go_enter Try.func15, Try.ntmps15
    go_wp2
    go_loopg [7, 12] n (fun kx s7 s12 wr => ∃ i c : Nat, s7 = .int .i64 c ∧ s12 = .int .i64 i ∧ i ≤ n ∧ c ≤ i ∧ n - i ≤ kx ∧ Hid (Below w.heap.size w wr) ∧ Hid (c = cntF k b (l.take i)))
    case atStart => exact ⟨0, 0, rfl, rfl, Nat.zero_le _, Nat.le_refl _, Nat.le_refl _, Below.refl _ _, rfl⟩
    case round =>
      obtain ⟨i, c, rfl, rfl, hi, hci, hkx, HB, HE⟩ := hrel
      by_cases hlt : i < n
      · have hltz : (i : Int) < (n : Int) := by omega
        have hil : i < l.length := by have := HN.out; omega
        have hr : wr.rangeAt B (off + i * 4) (encF l[i]) := fun t v hv => by
          rw [World.cell?_of_block (w := w) (HB.out.block B hB)]; exact HC.out i hil t v hv
        have hs := cntF_take k b l i hil
        generalize l[i] = x at hr hs
        have HR := Lib.hid hr
        have HS := Lib.hid hs
        obtain ⟨x1, x2, x3, x4⟩ := x
        have hK0 : Blk (wr.alloc (.cells (encF f0).toArray 26)) wr.heap.size (encF f0).toArray 26 := Blk.new wr _ _
        obtain ⟨w2, hw2⟩ : ∃ w2, (wr.alloc (.cells (encF f0).toArray 26)).setRow wr.heap.size (encF (x1, x2, x3, x4)).toArray = w2 := ⟨_, rfl⟩
        have hK2 : Blk w2 wr.heap.size (encF (x1, x2, x3, x4)).toArray 26 := by rw [← hw2]; exact hK0.put _
        have hb2 : Below wr.heap.size wr w2 := by rw [← hw2]; exact below_put (Nat.le_refl _) _ ((Below.refl _ wr).alloc (Nat.le_refl _) _)
        have c0 : w2.cell? ⟨wr.heap.size, 0, none⟩ = some (.int .i64 x1) := hK2.cell 0
        have c1 : w2.cell? ⟨wr.heap.size, 1, none⟩ = some (.int .i64 x2) := hK2.cell 1
        have K0 := Lib.hid hK0
        have HW := Lib.hid hw2
        have HB2 : Hid (Below w.heap.size w w2) := HB.out.trans (hb2.mono HB.out.size)
        clear hr hs hK0 hw2 hK2 hb2 HB hil
        by_cases hp : x2 = k ∧ 0 ≤ x1 ∧ x1 < b
        · have p1 : (x2 == k) = true := by simpa using hp.1
          have p2 : 0 ≤ x1 := hp.2.1
          have p3 : x1 < b := hp.2.2
          have p4 : decide (0 ≤ x1) = true := by simpa using p2
          have p5 : decide (x1 < b) = true := by simpa using p3
          have HP : Hid (cntB k b (x1, x2, x3, x4) = true) := decide_eq_true hp
          clear hp
          go_wp2_with (first
            | (refine wpList_load_mid rfl 26 (.tmp 14) rfl B (off + i * 4) rfl (encF (x1, x2, x3, x4)) _ HR.out Try.underlying26 rfl size_fault ?_)
            | (refine wpList_store_row rfl 26 (.tmp 9) (.tmp 15) rfl wr.heap.size (encF (x1, x2, x3, x4)).toArray rfl rfl 26 (encF f0).toArray K0.out size_fault rfl (encF_all _) ?_; change wpList _ _ _ _ _ ((wr.alloc (.cells (encF f0).toArray 26)).setRow wr.heap.size (encF (x1, x2, x3, x4)).toArray); rw [HW.out]))
          go_roundg (n - (i + 1))
          case measure => omega
          case rel =>
            have HE2 : Hid (c + 1 = cntF k b (l.take (i + 1))) := by show _ = _; rw [HS.out, HP.out, ← HE.out]; rfl
            exact ⟨i + 1, c + 1, by go_num, by go_num, by omega, by omega, Nat.le_refl _, HB2, HE2⟩
        · have HP : Hid (cntB k b (x1, x2, x3, x4) = false) := decide_eq_false hp
          have HE2 : Hid (c = cntF k b (l.take (i + 1))) := by show _ = _; rw [HS.out, HP.out, ← HE.out]; rfl
          by_cases q1 : x2 = k
          · have p1 : (x2 == k) = true := by simpa using q1
            by_cases q2 : 0 ≤ x1
            · have p4 : decide (0 ≤ x1) = true := by simpa using q2
              have p3 : ¬ x1 < b := fun h => hp ⟨q1, q2, h⟩
              have p5 : decide (x1 < b) = false := by simpa using p3
              clear hp q1
              go_wp2_with (first
                | (refine wpList_load_mid rfl 26 (.tmp 14) rfl B (off + i * 4) rfl (encF (x1, x2, x3, x4)) _ HR.out Try.underlying26 rfl size_fault ?_)
                | (refine wpList_store_row rfl 26 (.tmp 9) (.tmp 15) rfl wr.heap.size (encF (x1, x2, x3, x4)).toArray rfl rfl 26 (encF f0).toArray K0.out size_fault rfl (encF_all _) ?_; change wpList _ _ _ _ _ ((wr.alloc (.cells (encF f0).toArray 26)).setRow wr.heap.size (encF (x1, x2, x3, x4)).toArray); rw [HW.out]))
              go_roundg (n - (i + 1))
              case measure => omega
              case rel => exact ⟨i + 1, c, by go_num, by go_num, by omega, by omega, Nat.le_refl _, HB2, HE2⟩
            · have p4 : decide (0 ≤ x1) = false := by simpa using q2
              clear hp q1
              go_wp2_with (first
                | (refine wpList_load_mid rfl 26 (.tmp 14) rfl B (off + i * 4) rfl (encF (x1, x2, x3, x4)) _ HR.out Try.underlying26 rfl size_fault ?_)
                | (refine wpList_store_row rfl 26 (.tmp 9) (.tmp 15) rfl wr.heap.size (encF (x1, x2, x3, x4)).toArray rfl rfl 26 (encF f0).toArray K0.out size_fault rfl (encF_all _) ?_; change wpList _ _ _ _ _ ((wr.alloc (.cells (encF f0).toArray 26)).setRow wr.heap.size (encF (x1, x2, x3, x4)).toArray); rw [HW.out]))
              go_roundg (n - (i + 1))
              case measure => omega
              case rel => exact ⟨i + 1, c, by go_num, by go_num, by omega, by omega, Nat.le_refl _, HB2, HE2⟩
          · have p1 : (x2 == k) = false := by simpa using q1
            clear hp
            go_wp2_with (first
              | (refine wpList_load_mid rfl 26 (.tmp 14) rfl B (off + i * 4) rfl (encF (x1, x2, x3, x4)) _ HR.out Try.underlying26 rfl size_fault ?_)
              | (refine wpList_store_row rfl 26 (.tmp 9) (.tmp 15) rfl wr.heap.size (encF (x1, x2, x3, x4)).toArray rfl rfl 26 (encF f0).toArray K0.out size_fault rfl (encF_all _) ?_; change wpList _ _ _ _ _ ((wr.alloc (.cells (encF f0).toArray 26)).setRow wr.heap.size (encF (x1, x2, x3, x4)).toArray); rw [HW.out]))
            go_roundg (n - (i + 1))
            case measure => omega
            case rel => exact ⟨i + 1, c, by go_num, by go_num, by omega, by omega, Nat.le_refl _, HB2, HE2⟩
      · obtain rfl : i = n := by omega
        have hltz : ¬ (i : Int) < (i : Int) := by omega
        go_wp2
        go_ret
        refine ⟨?_, HB.out⟩
        have := HE.out
        rw [← HN.out, cntF_all] at this
        rw [← this]; rfl

set_option maxHeartbeats 2000000 in
theorem rfa_count (oa : Option Addr) (cap : Nat) (l : List Fa) (hl : l.length ≤ maxLen) (k b : Int) (w : World) (ha : FsAt w oa l) :
    Calls Try.prog 16 #[.slice oa l.length cap, .int .i64 k, .int .i64 b] w fun e w' => e = .returned (.int .i64 (cntF k b l : Nat)) ∧ w = w' := by
  by_cases h0 : l = []
  · subst h0
    show Calls Try.prog _ #[.slice oa 0 cap, .int .i64 k, .int .i64 b] w fun e w' => e = .returned (.int .i64 0) ∧ w = w'
    clear ha
    go_enter Try.func16, Try.ntmps16
    go_wp2
    refine wp_loop_rounds 1 ?_
    rw [rounds_succ]
    go_wp2
    go_ret
    exact ⟨rfl, rfl⟩
  · obtain ⟨B, off, rfl, hB, hc⟩ := ha h0
    have HC : Hid (∀ i (hi : i < l.length), w.rangeAt B (off + i * 4) (encF l[i])) := hc
    obtain ⟨n, hn⟩ : ∃ n, l.length = n := ⟨_, rfl⟩
    have HN := Lib.hid hn
    have hn2 : (n : Int) ≤ 9223372036854775807 := by unfold maxLen at hl; omega
    rw [hn]
    clear hn hc ha hl h0
    go_enter Try.func16, Try.ntmps16
    go_wp2
    go_loopg [7, 8] n (fun kx s7 s12 wr => ∃ i c : Nat, s7 = .int .i64 c ∧ s12 = .int .i64 i ∧ i ≤ n ∧ c ≤ i ∧ n - i ≤ kx ∧ wr = w ∧ Hid (c = cntF k b (l.take i)))
    case atStart => exact ⟨0, 0, rfl, rfl, Nat.zero_le _, Nat.le_refl _, Nat.le_refl _, rfl, rfl⟩
    case round =>
      obtain ⟨i, c, rfl, rfl, hi, hci, hkx, rfl, HE⟩ := hrel
      by_cases hlt : i < n
      · have hltz : (i : Int) < (n : Int) := by omega
        have hil : i < l.length := by have := HN.out; omega
        have hr := HC.out i hil
        have hs := cntF_take k b l i hil
        generalize l[i] = x at hr hs
        have HS := Lib.hid hs
        obtain ⟨x1, x2, x3, x4⟩ := x
        have c0 : wr.cell? ⟨B, off + i * 4, none⟩ = some (.int .i64 x1) := hr 0 _ rfl
        have c1 : wr.cell? ⟨B, off + i * 4 + 1, none⟩ = some (.int .i64 x2) := hr 1 _ rfl
        clear hr hs hil
        by_cases hp : x2 = k ∧ 0 ≤ x1 ∧ x1 < b
        · have p1 : (x2 == k) = true := by simpa using hp.1
          have p2 : 0 ≤ x1 := hp.2.1
          have p3 : x1 < b := hp.2.2
          have p4 : decide (0 ≤ x1) = true := by simpa using p2
          have p5 : decide (x1 < b) = true := by simpa using p3
          have HP : Hid (cntB k b (x1, x2, x3, x4) = true) := decide_eq_true hp
          clear hp
          go_wp2_with fail
          go_roundg (n - (i + 1))
          case measure => omega
          case rel =>
            have HE2 : Hid (c + 1 = cntF k b (l.take (i + 1))) := by show _ = _; rw [HS.out, HP.out, ← HE.out]; rfl
            exact ⟨i + 1, c + 1, by go_num, by go_num, by omega, by omega, Nat.le_refl _, rfl, HE2⟩
        · have HP : Hid (cntB k b (x1, x2, x3, x4) = false) := decide_eq_false hp
          have HE2 : Hid (c = cntF k b (l.take (i + 1))) := by show _ = _; rw [HS.out, HP.out, ← HE.out]; rfl
          by_cases q1 : x2 = k
          · have p1 : (x2 == k) = true := by simpa using q1
            by_cases q2 : 0 ≤ x1
            · have p4 : decide (0 ≤ x1) = true := by simpa using q2
              have p3 : ¬ x1 < b := fun h => hp ⟨q1, q2, h⟩
              have p5 : decide (x1 < b) = false := by simpa using p3
              clear hp q1
              go_wp2_with fail
              go_roundg (n - (i + 1))
              case measure => omega
              case rel => exact ⟨i + 1, c, by go_num, by go_num, by omega, by omega, Nat.le_refl _, rfl, HE2⟩
            · have p4 : decide (0 ≤ x1) = false := by simpa using q2
              clear hp q1
              go_wp2_with fail
              go_roundg (n - (i + 1))
              case measure => omega
              case rel => exact ⟨i + 1, c, by go_num, by go_num, by omega, by omega, Nat.le_refl _, rfl, HE2⟩
          · have p1 : (x2 == k) = false := by simpa using q1
            clear hp
            go_wp2_with fail
            go_roundg (n - (i + 1))
            case measure => omega
            case rel => exact ⟨i + 1, c, by go_num, by go_num, by omega, by omega, Nat.le_refl _, rfl, HE2⟩
      · obtain rfl : i = n := by omega
        have hltz : ¬ (i : Int) < (i : Int) := by omega
        go_wp2
        go_ret
        refine ⟨?_, rfl⟩
        have := HE.out
        rw [← HN.out, cntF_all] at this
        rw [← this]; rfl

theorem find_take_hit {p : Fa → Bool} {l : List Fa} {i : Nat} (hi : i < l.length) (h : ∀ j (hj : j < l.length), j < i → p l[j] = false) (hp : p l[i] = true) : l.find? p = some l[i] :=
  List.find?_eq_some_iff_getElem.2 ⟨hp, i, hi, rfl, fun j hj => by simp [h j (by omega) hj]⟩
theorem find_take_miss {p : Fa → Bool} {l : List Fa} (h : ∀ j (hj : j < l.length), p l[j] = false) : l.find? p = none := by
  rw [List.find?_eq_none]
  intro x hx
  obtain ⟨j, hj, rfl⟩ := List.mem_iff_getElem.1 hx
  simp [h j hj]

set_option maxHeartbeats 2000000 in
theorem rfa_meets (oa : Option Addr) (cap : Nat) (l : List Fa) (hl : l.length ≤ maxLen) (t op : Int) (w : World) (ha : FsAt w oa l) :
    Calls Try.prog 9 #[.slice oa l.length cap, .int .i64 t, .int .i64 op] w fun e w' => e = .returned (.tuple (meetV (meetF l t op))) ∧ Below w.heap.size w w' := by
  have hK1 : Blk (w.alloc (.cells (encF f0).toArray 26)) w.heap.size (encF f0).toArray 26 := Blk.new w _ _
  obtain ⟨w1, hw1⟩ : ∃ w1, w.alloc (.cells (encF f0).toArray 26) = w1 := ⟨_, rfl⟩
  have hb1 : Below w.heap.size w w1 := by rw [← hw1]; exact (Below.refl _ w).alloc (Nat.le_refl _) _
  rw [hw1] at hK1
  have K1 := Lib.hid hK1
  have HB1 := Lib.hid hb1
  have HW := Lib.hid hw1
  by_cases h0 : l = []
  · subst h0
    show Calls Try.prog _ #[.slice oa 0 cap, .int .i64 t, .int .i64 op] w fun e w' => e = .returned (.tuple (meetV none)) ∧ Below w.heap.size w w'
    clear ha hK1 hb1 hw1
    go_enter Try.func9, Try.ntmps9
    go_wp2
    refine wp_loop_rounds 1 ?_
    rw [rounds_succ]
    go_wp2_with (first
      | (refine wpList_store_row rfl 26 (.tmp 6) (.tmp 35) rfl w.heap.size (encF f0).toArray rfl rfl 26 (encF f0).toArray (by have h := K1.out; rw [← HW.out] at h; exact h) size_fault rfl (encF_all _) ?_))
    exact bodyPost_ret (results_cell_tmp (P := Try.prog) rfl _ _ w.heap.size 26 (encF f0).toArray _ rfl ((show Blk (w.alloc (.cells (encF f0).toArray 26)) w.heap.size (encF f0).toArray 26 by rw [HW.out]; exact K1.out).put _) Try.underlying26 rfl size_fault) rfl ⟨rfl, below_put (Nat.le_refl _) _ (show Below w.heap.size w (w.alloc (.cells (encF f0).toArray 26)) by rw [HW.out]; exact HB1.out)⟩
  · obtain ⟨B, off, rfl, hB, hc⟩ := ha h0
    have HC : Hid (∀ i (hi : i < l.length), w1.rangeAt B (off + i * 4) (encF l[i])) := fun i hi j v hv => by
      rw [World.cell?_of_block (w := w) (hb1.block B hB)]; exact hc i hi j v hv
    obtain ⟨n, hn⟩ : ∃ n, l.length = n := ⟨_, rfl⟩
    have HN := Lib.hid hn
    have hn2 : (n : Int) ≤ 9223372036854775807 := by unfold maxLen at hl; omega
    rw [hn]
    clear hn hc ha hl h0 hK1 hb1 hw1
    go_enter Try.func9, Try.ntmps9
    go_wp2
    change Code.wp _ _ _ _ (w.alloc (.cells (encF f0).toArray 26))
    rw [HW.out]
    go_loopg [8] n (fun kx s8 wr => ∃ i : Nat, s8 = .int .i64 i ∧ i ≤ n ∧ n - i ≤ kx ∧ wr = w1 ∧ Hid (∀ j (hj : j < l.length), j < i → hitB t op l[j] = false))
    case atStart => exact ⟨0, rfl, Nat.zero_le _, Nat.le_refl _, rfl, fun j _ h => absurd h (Nat.not_lt_zero j)⟩
    case round =>
      obtain ⟨i, rfl, hi, hkx, rfl, HE⟩ := hrel
      by_cases hlt : i < n
      · have hltz : (i : Int) < (n : Int) := by omega
        have hil : i < l.length := by have := HN.out; omega
        have hr := HC.out i hil
        have HX : Hid (hitB t op l[i] = true → l.find? (hitB t op) = some l[i]) := fun h => find_take_hit hil HE.out h
        have HM : Hid (hitB t op l[i] = false → ∀ j (hj : j < l.length), j < i + 1 → hitB t op l[j] = false) := fun h j hj hji => by
          by_cases e : j = i
          · subst e; exact h
          · exact HE.out j hj (by omega)
        generalize l[i] = x at hr HX HM
        have HR := Lib.hid hr
        obtain ⟨x1, x2, x3, x4⟩ := x
        have c0 : wr.cell? ⟨B, off + i * 4, none⟩ = some (.int .i64 x1) := hr 0 _ rfl
        have c1 : wr.cell? ⟨B, off + i * 4 + 1, none⟩ = some (.int .i64 x2) := hr 1 _ rfl
        clear hr hil
        by_cases q1 : x1 = t
        · have p1 : (x1 == t) = true := by simpa using q1
          have HQ : Hid (hitB t op (x1, x2, x3, x4) = fitsB x2 op) := by show _ = _; unfold hitB; simp [q1]
          clear q1
          cases hq : fitsB x2 op with
          | true =>
            have HF : Hid (meetF l t op = some (x1, x2, x3, x4)) := HX.out (by rw [HQ.out]; exact hq)
            go_wp2_with (first
              | (go_at_call 22; refine (rfa_fits _ _ _).mono ?_; rintro r w2 ⟨rfl, rfl⟩; rw [hq])
              | (refine wpList_load_mid rfl 26 (.tmp 33) rfl B (off + i * 4) rfl (encF (x1, x2, x3, x4)) _ HR.out Try.underlying26 rfl size_fault ?_)
              | (refine wpList_store_row rfl 26 (.tmp 6) (.tmp 34) rfl w.heap.size (encF (x1, x2, x3, x4)).toArray rfl rfl 26 (encF f0).toArray K1.out size_fault rfl (encF_all _) ?_))
            exact bodyPost_ret (results_cell_tmp (P := Try.prog) rfl _ _ w.heap.size 26 (encF (x1, x2, x3, x4)).toArray _ rfl (K1.out.put _) Try.underlying26 rfl size_fault) rfl ⟨by rw [HF.out]; rfl, below_put (Nat.le_refl _) _ HB1.out⟩
          | false =>
            have HF := Lib.hid (HM.out (by rw [HQ.out]; exact hq))
            go_wp2_with (first
              | (go_at_call 22; refine (rfa_fits _ _ _).mono ?_; rintro r w2 ⟨rfl, rfl⟩; rw [hq]))
            go_roundg (n - (i + 1))
            case measure => omega
            case rel => exact ⟨i + 1, by go_num, by omega, Nat.le_refl _, rfl, HF⟩
        · have p1 : (x1 == t) = false := by simpa using q1
          have HF := Lib.hid (HM.out (by unfold hitB; simp [q1]))
          go_wp2_with fail
          go_roundg (n - (i + 1))
          case measure => omega
          case rel => exact ⟨i + 1, by go_num, by omega, Nat.le_refl _, rfl, HF⟩
      · obtain rfl : i = n := by omega
        have hltz : ¬ (i : Int) < (i : Int) := by omega
        have HF : Hid (meetF l t op = none) := find_take_miss fun j hj => HE.out j hj (by have := HN.out; omega)
        go_wp2_with (first
          | (refine wpList_store_row rfl 26 (.tmp 6) (.tmp 35) rfl w.heap.size (encF f0).toArray rfl rfl 26 (encF f0).toArray K1.out size_fault rfl (encF_all _) ?_))
        exact bodyPost_ret (results_cell_tmp (P := Try.prog) rfl _ _ w.heap.size 26 (encF f0).toArray _ rfl (K1.out.put _) Try.underlying26 rfl size_fault) rfl ⟨by rw [HF.out]; rfl, below_put (Nat.le_refl _) _ HB1.out⟩

end Go.Proofs.Ytbpkaegkcknemaa
