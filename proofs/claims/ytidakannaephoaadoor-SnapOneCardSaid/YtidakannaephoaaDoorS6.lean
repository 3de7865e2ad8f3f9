/- Texts of one claim, merged: SnC1, SnR4, SnC6, SnC7. -/
import Derived.Test.YtidakannaephoaaDoorS4
import Derived.Test.YtidakannaephoaaDoorS5
import Derived.Deep.RegionLaw
import Derived.Deep.AppendLies
import Derived.Test.YtidakannaephoaaDoorS2

/- Package snap, walked: areNumbers, isOf, Fits, must, isNoughts. -/
namespace Go.Proofs.YtidakannaephoaaDoor
set_option maxRecDepth 100000
open Go.RowKit

set_option maxHeartbeats 1000000 in
theorem sn_numbers (w : World) (v : Value) (l : List Int) (n most : Int) (hn : -9223372036854775808 ≤ n ∧ n ≤ 9223372036854775807) (hv : IvAt w v l) :
    Calls Tryd.prog 32 #[v, .int .i64 n, .int .i64 most] w fun e w' => e = .returned (.bool (inB l n most)) ∧ Below w.heap.size w w' := by
  obtain ⟨a, cap, rfl, hc, hs⟩ := hv
  obtain ⟨N, hN⟩ : ∃ N, l.length = N := ⟨_, rfl⟩
  have hb : (N : Int) ≤ 9223372036854775807 := by unfold maxLen at hc; omega
  have HS := Lib.hid hs
  have HN := Lib.hid hN
  rw [hN]
  clear hs hN hc
  by_cases hz : (N : Int) = n
  · subst hz
    have hzb : ((N : Int) == (N : Int)) = true := by simp
    go_enter Tryd.func32, Tryd.ntmps32
    go_wp2_with fail
    go_loopw [15] (fun i wr => ∃ (k : Nat), k ≤ N ∧ i = .int .i64 k ∧ Hid (UpTo l most k) ∧ Hid (Below w.heap.size w wr)) (fun i _ => N + 1 - (intOf i).toNat)
    case atStart => exact ⟨0, Nat.zero_le _, rfl, UpTo.zero _ _, Below.refl _ _⟩
    case round =>
      obtain ⟨k, hk, rfl, HY, HB⟩ := hrel
      by_cases hlt : k < N
      · have hltz : (k : Int) < (N : Int) := by omega
        have hkl : k < l.length := by have := HN.out; omega
        obtain ⟨g, o, rfl, hg, h1⟩ := HS.out (by intro h0; rw [h0] at hkl; exact absurd hkl (Nat.not_lt_zero _))
        have r1 := h1 k hkl
        obtain ⟨x, hx⟩ : ∃ x, l[k] = x := ⟨_, rfl⟩
        rw [hx] at r1
        have c1 := (HB.out.cell (p := ⟨g, o + k, none⟩) (cell_lt r1)).trans r1
        by_cases hneg : x < 0
        · have HNO : Hid (inB l N most = false) := inB_no hkl (Or.inl (by rw [hx]; exact hneg))
          clear HY h1 r1 hx hg hkl
          go_wp2_with fail
          go_ret
          exact ⟨ret_bool HNO.out.symm, HB.out⟩
        · by_cases hbig : most < x
          · have HNO : Hid (inB l N most = false) := inB_no hkl (Or.inr (by rw [hx]; exact hbig))
            clear HY h1 r1 hx hg hkl
            go_wp2_with fail
            go_ret
            exact ⟨ret_bool HNO.out.symm, HB.out⟩
          · have HY2 : Hid (UpTo l most (k + 1)) := HY.out.one hkl (by rw [hx]; omega) (by rw [hx]; omega)
            clear HY h1 r1 hx hg hkl
            go_wp2_with fail
            refine ⟨⟨k + 1, by omega, by go_num, HY2, HB⟩, ?_⟩
            simp [intOf]; omega
      · obtain rfl : k = N := by omega
        have hltz : ¬ (k : Int) < (k : Int) := by omega
        have HE : Hid (inB l k most = true) := decide_eq_true ⟨by rw [HN.out], HY.out.all (by rw [HN.out]; exact Nat.le_refl _)⟩
        clear HY hlt
        go_wp2_with fail
        go_ret
        exact ⟨ret_bool HE.out.symm, HB.out⟩
  · have hnb : ((N : Int) == n) = false := by simp; omega
    have HNO : Hid (inB l n most = false) := decide_eq_false (fun h => hz (by rw [← HN.out]; exact h.1))
    go_enter Tryd.func32, Tryd.ntmps32
    go_wp2_with fail
    go_ret
    exact ⟨ret_bool HNO.out.symm, Below.refl _ _⟩


/-- does what is durable fit a geometry that may be? -/
def fitB (b n : Int) (x : Sn) : Bool := decide (FitS b n x)
theorem fitB_eq (b n : Int) (x : Sn) : fitB b n x = (inB x.f n 281474976710655 && (inB x.c b 4294967295 && (inB x.s b 16777215 && inB x.t b 16777215))) := by
  rw [Bool.eq_iff_iff]
  unfold fitB inB
  rw [Bool.and_eq_true, Bool.and_eq_true, Bool.and_eq_true, decide_eq_true_iff, decide_eq_true_iff, decide_eq_true_iff, decide_eq_true_iff, decide_eq_true_iff]
  exact Iff.rfl

set_option maxHeartbeats 1000000 in
theorem sn_isof (w : World) (b l y n s r : Int) (A : Array Value) (x : Sn) (hok : OkG b l y n s r) (hA : SnAt w A x) :
    Calls Tryd.prog 18 #[.agg (gv b l y n s r), .agg A] w fun e w' => e = .returned (.bool (fitB b n x)) ∧ Below w.heap.size w w' := by
  obtain ⟨w2, hw2⟩ : ∃ w2, (w.alloc (.cells (gv b l y n s r) 23)).alloc (.cells A 26) = w2 := ⟨_, rfl⟩
  have hsw : SnW w b l y n s r A w2 := by rw [← hw2]; exact SnW.new _ _ _ _ _ _ _ _
  obtain ⟨vf, vc, vs, vt, rfl, h1, h2, h3, h4⟩ := hA
  have HSW := Lib.hid hsw
  have HW2 := Lib.hid hw2
  rw [fitB_eq]
  obtain ⟨hb, hn⟩ : (-9223372036854775808 ≤ b ∧ b ≤ 9223372036854775807) ∧ (-9223372036854775808 ≤ n ∧ n ≤ 9223372036854775807) := by
    have h := hok.1; unfold PreG at h; omega
  have H1 : Hid (∀ w3, Below w2.heap.size w2 w3 → Calls Tryd.prog 32 #[vf, .int .i64 n, .int .i64 281474976710655] w3 fun e w' => e = .returned (.bool (inB x.f n 281474976710655)) ∧ Below w3.heap.size w3 w') := fun w3 hb3 => sn_numbers w3 vf x.f n _ hn ((h1.below hsw.2).below hb3)
  have H2 : Hid (∀ w3, Below w2.heap.size w2 w3 → Calls Tryd.prog 32 #[vc, .int .i64 b, .int .i64 4294967295] w3 fun e w' => e = .returned (.bool (inB x.c b 4294967295)) ∧ Below w3.heap.size w3 w') := fun w3 hb3 => sn_numbers w3 vc x.c b _ hb ((h2.below hsw.2).below hb3)
  have H3 : Hid (∀ w3, Below w2.heap.size w2 w3 → Calls Tryd.prog 32 #[vs, .int .i64 b, .int .i64 16777215] w3 fun e w' => e = .returned (.bool (inB x.s b 16777215)) ∧ Below w3.heap.size w3 w') := fun w3 hb3 => sn_numbers w3 vs x.s b _ hb ((h3.below hsw.2).below hb3)
  have H4 : Hid (∀ w3, Below w2.heap.size w2 w3 → Calls Tryd.prog 32 #[vt, .int .i64 b, .int .i64 16777215] w3 fun e w' => e = .returned (.bool (inB x.t b 16777215)) ∧ Below w3.heap.size w3 w') := fun w3 hb3 => sn_numbers w3 vt x.t b _ hb ((h4.below hsw.2).below hb3)
  obtain ⟨q1, hq1⟩ : ∃ q, inB x.f n 281474976710655 = q := ⟨_, rfl⟩
  obtain ⟨q2, hq2⟩ : ∃ q, inB x.c b 4294967295 = q := ⟨_, rfl⟩
  obtain ⟨q3, hq3⟩ : ∃ q, inB x.s b 16777215 = q := ⟨_, rfl⟩
  obtain ⟨q4, hq4⟩ : ∃ q, inB x.t b 16777215 = q := ⟨_, rfl⟩
  rw [hq1, hq2, hq3, hq4]
  simp only [hq1] at H1
  simp only [hq2] at H2
  simp only [hq3] at H3
  simp only [hq4] at H4
  have hbw : ∀ w3, Below w2.heap.size w2 w3 → Below w.heap.size w w3 := fun w3 hb3 => hsw.2.trans (hb3.mono hsw.2.size)
  have HBW := Lib.hid hbw
  obtain ⟨g0, g2, g3⟩ := hsw.geo
  obtain ⟨c0, c1, c2, c3⟩ := hsw.four
  clear h1 h2 h3 h4 hq1 hq2 hq3 hq4 hsw hok hb hn hbw
  rw [← hw2] at g0 g2 g3 c0 c1 c2 c3
  clear hw2
  go_enter Tryd.func18, Tryd.ntmps18
  go_wp2_with (first | (go_at_call 32; rw [HW2.out]; refine (H1.out w2 (Below.refl _ _)).mono ?_))
  rintro e w4 ⟨rfl, hb4'⟩
  clear g0 g2 g3 c0 c1 c2 c3
  have hsw4 := HSW.out.call hb4'
  have HB4 := Lib.hid hb4'
  cases q1
  · clear hsw4 hb4'
    go_wp2_with fail
    go_ret
    exact ⟨rfl, HBW.out _ HB4.out⟩
  obtain ⟨g0, g2, g3⟩ := hsw4.geo
  obtain ⟨c0, c1, c2, c3⟩ := hsw4.four
  clear hsw4 hb4'
  go_wp2_with fail
  refine (H2.out w4 HB4.out).mono ?_
  rintro e w5 ⟨rfl, hb5⟩
  have hb5' := HB4.out.trans (hb5.mono HB4.out.size)
  clear g0 g2 g3 c0 c1 c2 c3 hb5
  have hsw5 := HSW.out.call hb5'
  have HB5 := Lib.hid hb5'
  cases q2
  · clear hsw5 hb5'
    go_wp2_with fail
    go_ret
    exact ⟨rfl, HBW.out _ HB5.out⟩
  obtain ⟨g0, g2, g3⟩ := hsw5.geo
  obtain ⟨c0, c1, c2, c3⟩ := hsw5.four
  clear hsw5 hb5'
  go_wp2_with fail
  refine (H3.out w5 HB5.out).mono ?_
  rintro e w6 ⟨rfl, hb6⟩
  have hb6' := HB5.out.trans (hb6.mono HB5.out.size)
  clear g0 g2 g3 c0 c1 c2 c3 hb6
  have hsw6 := HSW.out.call hb6'
  have HB6 := Lib.hid hb6'
  cases q3
  · clear hsw6 hb6'
    go_wp2_with fail
    go_ret
    exact ⟨rfl, HBW.out _ HB6.out⟩
  obtain ⟨g0, g2, g3⟩ := hsw6.geo
  obtain ⟨c0, c1, c2, c3⟩ := hsw6.four
  clear hsw6 hb6'
  go_wp2_with fail
  refine (H4.out w6 HB6.out).mono ?_
  rintro e w7 ⟨rfl, hb7⟩
  have HB7 := Lib.hid (HB6.out.trans (hb7.mono HB6.out.size))
  clear g0 g2 g3 c0 c1 c2 c3 hb7
  go_wp2_with fail
  go_ret
  exact ⟨rfl, HBW.out _ HB7.out⟩

set_option maxHeartbeats 1000000 in
theorem sn_fits (w : World) (b l y n s r : Int) (A : Array Value) (x : Sn) (hA : SnAt w A x) :
    Calls Tryd.prog 11 #[.agg (gv b l y n s r), .agg A] w fun e w' => e = .returned (.bool (fitsB b l y n s r x)) ∧ Below w.heap.size w w' := by
  obtain ⟨w2, hw2⟩ : ∃ w2, (w.alloc (.cells (gv b l y n s r) 23)).alloc (.cells A 26) = w2 := ⟨_, rfl⟩
  have hsw : SnW w b l y n s r A w2 := by rw [← hw2]; exact SnW.new _ _ _ _ _ _ _ _
  have hs4 : A.size = 4 := by obtain ⟨_, _, _, _, rfl, _⟩ := hA; rfl
  have HS4 : Hid ((Tryd.prog.info? 26).map (·.size) = some A.size) := by rw [hs4]; exact size_state
  have HFI : Hid (OkG b l y n s r → ∀ w3, Below w2.heap.size w2 w3 → Calls Tryd.prog 18 #[.agg (gv b l y n s r), .agg A] w3 fun e w' => e = .returned (.bool (fitB b n x)) ∧ Below w3.heap.size w3 w') := fun hok w3 hb3 => sn_isof w3 b l y n s r A x hok ((hA.below hsw.2).below hb3)
  have HSW := Lib.hid hsw
  have HW2 := Lib.hid hw2
  have HBW : Hid (∀ w3, Below w2.heap.size w2 w3 → Below w.heap.size w w3) := fun w3 hb3 => hsw.2.trans (hb3.mono hsw.2.size)
  rcases chk_eq0 b l y n s r with ⟨hck, hok⟩ | ⟨hck, hok⟩
  · have hfe : fitsB b l y n s r x = fitB b n x := by rw [fitsB_ok hok, fitB_eq]
    rw [hfe]
    have HK := Lib.hid hck
    have HFI2 := Lib.hid (HFI.out hok)
    clear hck hsw hok hw2 hfe hs4 HFI hA
    go_enter Tryd.func11, Tryd.ntmps11
    go_wp2_with (first
      | (change wpList _ _ _ _ _ ((w.alloc (.cells (gv b l y n s r) 23)).alloc (.cells A 26)); rw [HW2.out]; refine wpList_load_row rfl 23 (.tmp 2) rfl w.heap.size rfl 23 (gv b l y n s r) (0, 0) _ HSW.out.1.2.1 Tryd.underlying23 rfl size_geo ?_))
    refine (ge_check b l y n s r w2).mono ?_
    rintro e w3 ⟨rfl, hb3⟩
    rw [HK.out]
    have HB3 := Lib.hid hb3
    clear hb3
    go_wp2_with (first
      | (refine wpList_load_row_if (by kernel_rfl) 23 (.tmp 2) rfl w.heap.size rfl 23 (gv b l y n s r) (0, 0) _ (HSW.out.call HB3.out).1.2.1 Tryd.underlying23 rfl size_geo ?_)
      | (refine wpList_load_row_if (by kernel_rfl) 26 (.tmp 3) rfl (w.heap.size + 1) rfl 26 A (0, 0) _ (HSW.out.call HB3.out).1.2.2 Tryd.underlying26 rfl HS4.out ?_))
    refine (HFI2.out w3 HB3.out).mono ?_
    rintro e w4 ⟨rfl, hb4⟩
    have HB4 := Lib.hid (HB3.out.trans (hb4.mono HB3.out.size))
    clear hb4 HB3
    go_wp2_with fail
    go_ret
    exact ⟨rfl, HBW.out _ HB4.out⟩
  · rw [fitsB_no hok]
    have HK := Lib.hid hck
    clear hck hsw hok hw2 hs4 HFI hA
    go_enter Tryd.func11, Tryd.ntmps11
    go_wp2_with (first
      | (change wpList _ _ _ _ _ ((w.alloc (.cells (gv b l y n s r) 23)).alloc (.cells A 26)); rw [HW2.out]; refine wpList_load_row rfl 23 (.tmp 2) rfl w.heap.size rfl 23 (gv b l y n s r) (0, 0) _ HSW.out.1.2.1 Tryd.underlying23 rfl size_geo ?_))
    refine (ge_check b l y n s r w2).mono ?_
    rintro e w3 ⟨rfl, hb3⟩
    rw [HK.out]
    have HB3 := Lib.hid hb3
    clear hb3
    go_wp2_with fail
    go_ret
    exact ⟨rfl, HBW.out _ HB3.out⟩

/-- what must panics with -/
def snapP : List PanicEntry := [{ v := .iface 29 (.int .i64 130), recovered := false }]
theorem must_yes (w : World) : Calls Tryd.prog 51 #[.bool true] w fun e w' => e = .returned (.tuple #[]) ∧ w = w' := by
  go_enter Tryd.func51, Tryd.ntmps51
  go_wp2_with fail
  refine bodyPost_end (results_none rfl _ _ _) rfl ?_
  exact ⟨rfl, rfl⟩
theorem must_no (w : World) : Calls Tryd.prog 51 #[.bool false] w fun e w' => e = .panicked snapP ∧ w = w' := by
  go_enter Tryd.func51, Tryd.ntmps51
  go_wp2_with fail
  exact ⟨rfl, rfl, rfl⟩
theorem sn_noughts (s : ByteArray) (w : World) (hs : s.size ≤ 1000000) : Calls Tryd.prog 52 #[.string s] w fun e w' => e = .returned (.bool (decide (Noughts s))) ∧ w = w' := by
  have hh := trim_zero s w hs
  have HH := Lib.hid hh
  clear hh
  go_enter Tryd.func52, Tryd.ntmps52
  go_wp2_with fail
  refine HH.out.mono ?_
  rintro e w1 ⟨⟨t, rfl, ht⟩, rfl⟩
  clear HH
  by_cases h0 : t = ByteArray.empty
  · subst h0
    have HT : Hid (decide (Noughts s) = true) := decide_eq_true (ht.1 rfl)
    clear ht
    go_wp2_with fail
    go_ret
    exact ⟨ret_bool HT.out.symm, rfl⟩
  · have hemp := text_fullS h0
    have HT : Hid (decide (Noughts s) = false) := decide_eq_false fun hn => h0 (by have := ht.2 hn; apply bytes_eq; exact List.eq_nil_of_length_eq_zero this)
    clear ht
    go_wp2_with fail
    go_ret
    exact ⟨ret_bool HT.out.symm, rfl⟩

end Go.Proofs.YtidakannaephoaaDoor

/- The reference's Take: the geometry, and the pages' text. -/
namespace Go.Proofs.YtidakannaephoaaDoor
set_option maxRecDepth 100000
open Go.RowKit

def nil4 : Array Value := #[.slice none 0 0, .slice none 0 0, .slice none 0 0, .slice none 0 0]
theorem nil4_one : nil4.all (·.oneCell') = true := by unfold nil4; simp [Value.oneCell']
theorem snat_nil4 (w : World) : SnAt w nil4 ⟨[], [], [], []⟩ := ⟨_, _, _, _, rfl, IvAt.nil _, IvAt.nil _, IvAt.nil _, IvAt.nil _⟩

/-- what Take answers -/
def TakeS (b l y n s r : Int) (ps : List ByteArray) (w : World) (e : Ending) (w' : World) : Prop :=
  (¬ OkG b l y n s r → e = .returned (.tuple #[.agg nil4, .int .i64 60]))
  ∧ (OkG b l y n s r → ¬ PagesOk ps b.toNat n.toNat (snapsG b y n).toNat y.toNat → e = .returned (.tuple #[.agg nil4, .int .i64 130]))
  ∧ (OkG b l y n s r → PagesOk ps b.toNat n.toNat (snapsG b y n).toNat y.toNat → ∃ A, e = .returned (.tuple #[.agg A, .int .i64 0]) ∧ SnAt w' A (ofText (catP ps) b.toNat n.toNat))
  ∧ Below w.heap.size w w'

theorem catP_step (l : List ByteArray) (i : Nat) (h : i < l.length) : catP (l.take (i + 1)) = catP (l.take i) ++ l[i] := by
  have h2 : l.take (i + 1) = l.take i ++ [l[i]] := by rw [List.take_add_one, List.getElem?_eq_getElem h]; rfl
  rw [h2]
  unfold catP
  rw [List.foldl_append]
  rfl
theorem below_row {w0 w : World} {b l y n s r : Int} {A : Array Value} (h : SnW w0 b l y n s r A w) (B : Array Value) : Below w0.heap.size w0 (w.setRow (w0.heap.size + 1) B) := below_put (by omega) _ h.2

theorem snaps_stay {S : World → Prop} (hS : Stay S) (b l y n s r : Int) (K : Nat) (w : World) (hw : S w) (h : PreG b l y n s r) (hk : snapsG b y n = (K : Int)) :
    Calls Tryd.prog 25 #[.agg (gv b l y n s r)] w fun e w' => e = .returned (.int .i64 (K : Int)) ∧ S w' := by
  refine (rge_snaps b l y n s r w h).mono ?_
  rintro e w' ⟨rfl, hb⟩
  rw [hk]
  exact ⟨rfl, hS _ _ hw hb⟩
theorem snw_stay (w0 : World) (b l y n s r : Int) (A : Array Value) : Stay (SnW w0 b l y n s r A) := fun _ _ h hb => h.call hb
theorem SnW.six {w0 w : World} {b l y n s r : Int} {A : Array Value} (h : SnW w0 b l y n s r A w) :
    w.cell? ⟨w0.heap.size, 0, none⟩ = some (.int .i64 b) ∧ w.cell? ⟨w0.heap.size, 1, none⟩ = some (.int .i64 l) ∧ w.cell? ⟨w0.heap.size, 2, none⟩ = some (.int .i64 y) ∧ w.cell? ⟨w0.heap.size, 3, none⟩ = some (.int .i64 n) ∧ w.cell? ⟨w0.heap.size, 4, none⟩ = some (.int .i64 s) ∧ w.cell? ⟨w0.heap.size, 5, none⟩ = some (.int .i64 r) :=
  ⟨h.1.2.1.cell 0, h.1.2.1.cell 1, h.1.2.1.cell 2, h.1.2.1.cell 3, h.1.2.1.cell 4, h.1.2.1.cell 5⟩

theorem infoInt : (Tryd.prog.info? 3).map (fun i => (i.zero, i.size, i.bytes)) = some (some (.int .i64 0), 1, 8) := by kernel_rfl
/-- numbers as values -/
def intV (l : List Int) : List Value := l.map (Value.int .i64)
theorem intV_snoc (f : Nat → Int) (p : Nat) : intV ((List.range (p + 1)).map f) = intV ((List.range p).map f) ++ [.int .i64 (f p)] := by
  rw [List.range_succ, List.map_append]; unfold intV; rw [List.map_append]; rfl

theorem blk_grownS {w w' : World} {b : Nat} {cs : Array Value} {t : TypeId} {r : Option Nat} (h : Blk w b cs t) (hg : w.grownBy w' r) (hr : r ≠ some b) : Blk w' b cs t := by
  have h1 := hg.block b h.lt (by first | exact hr | exact Ne.symm hr)
  unfold Blk at *
  exact h1.trans h
theorem own_ne {w : World} {B z n b : Nat} {v : Value} {xs : List Value} {e : TypeId} (h : w.ownsRow B e z v n xs) (hb : b < B) : v.ownBlock ≠ some b := fun he => by
  have := (h.lt b he).1; omega

/-- nothing of the one lies where the other does -/
def Apart (u v : Value) : Prop := ∀ g, u.ownBlock = some g → v.ownBlock ≠ some g
/-- four rows of numbers, of the call's own, no two in one block -/
def FourR (w : World) (B : Nat) (V : List Value) (L : List (List Int)) : Prop :=
  (∀ k, k < 4 → w.ownsRow B 3 1 (V.getD k undef) (L.getD k []).length (intV (L.getD k []))) ∧ ∀ j k, j < 4 → k < 4 → j ≠ k → Apart (V.getD j undef) (V.getD k undef)
theorem getD_setS {α : Type} (V : List α) (k j : Nat) (v d : α) (hk : k < V.length) : (V.set k v).getD j d = if j = k then v else V.getD j d := by
  by_cases h : j = k
  · subst h; simp [List.getD_eq_getElem?_getD, hk]
  · simp [List.getD_eq_getElem?_getD, List.getElem?_set_ne (Ne.symm h), h]
theorem own_other {w w' : World} {B z n : Nat} {u : Value} {xs : List Value} {e : TypeId} {r : Option Nat} (hu : w.ownsRow B e z u n xs) (o : Obj) (hg : (w.alloc o).grownBy w' r) (ha : ∀ g, u.ownBlock = some g → r ≠ some g) : w'.ownsRow B e z u n xs := by
  refine ⟨hu.1, ?_⟩
  have hlt := hu.lt
  rcases hu.2 with ⟨rfl, h0⟩ | ⟨g, cap, cur, rfl, hbg, hgc, h1⟩
  · exact .inl ⟨rfl, h0⟩
  · have h2 := (hlt g rfl).2
    exact .inr ⟨g, cap, cur, rfl, hbg, (hg.block g (by simp; omega) (Ne.symm (ha g rfl))).trans ((Below.heap_alloc w o g h2).trans hgc), h1⟩
theorem FourR.grow {w w' : World} {B : Nat} {V : List Value} {L : List (List Int)} (h : FourR w B V L) (hV : V.length = 4) (hL : L.length = 4) {k : Nat} (hk : k < 4) {o : Obj} {x : Int} {n g cap : Nat} (hn : (L.getD k []).length = n)
    (hown : w'.ownsRow B 3 1 (.slice (some ⟨g, 0, none⟩) (n + 1) cap) (n + 1) (intV (L.getD k []) ++ [.int .i64 x])) (hg : (w.alloc o).grownBy w' (V.getD k undef).ownBlock) (hat : (V.getD k undef).ownBlock = some g ∨ g = w.heap.size + 1) :
    FourR w' B (V.set k (.slice (some ⟨g, 0, none⟩) (n + 1) cap)) (L.set k (L.getD k [] ++ [x])) := by
  refine ⟨fun j hj => ?_, fun i j hi hj hne => ?_⟩
  · rw [getD_setS _ _ _ _ _ (by omega), getD_setS _ _ _ _ _ (by omega)]
    by_cases hjk : j = k
    · rw [if_pos hjk, if_pos hjk]
      have h1 : intV (L.getD k [] ++ [x]) = intV (L.getD k []) ++ [.int .i64 x] := by unfold intV; simp
      rw [h1, List.length_append, hn]; exact hown
    · rw [if_neg hjk, if_neg hjk]
      exact own_other (h.1 j hj) o hg (h.2 j k hj hk hjk)
  · rw [getD_setS _ _ _ _ _ (by omega), getD_setS _ _ _ _ _ (by omega)]
    have hnew : ∀ t, t < 4 → t ≠ k → ∀ g', (V.getD t undef).ownBlock = some g' → g' ≠ g := fun t ht htk g' hg' hgg => by
      rcases hat with h1 | h1
      · exact h.2 t k ht hk htk g' hg' (by rw [h1, hgg])
      · have h2 := ((h.1 t ht).lt g' hg').2
        omega
    by_cases hik : i = k
    · rw [if_pos hik, if_neg (by omega)]
      intro g' hg' h3
      have h4 : g = g' := by
        have : (Value.slice (some ⟨g, 0, none⟩) (n + 1) cap).ownBlock = some g := rfl
        rw [this] at hg'; exact Option.some.inj hg'
      exact hnew j hj (by omega) g' h3 h4.symm
    · rw [if_neg hik]
      by_cases hjk : j = k
      · rw [if_pos hjk]
        intro g' hg' h3
        have h4 : g = g' := by
          have : (Value.slice (some ⟨g, 0, none⟩) (n + 1) cap).ownBlock = some g := rfl
          rw [this] at h3; exact Option.some.inj h3
        exact hnew i hi hik g' hg' h4.symm
      · rw [if_neg hjk]; exact h.2 i j hi hj hne
theorem FourR.setCell {w : World} {B : Nat} {V : List Value} {L : List (List Int)} (h : FourR w B V L) (p : Addr) (hp : p.block < B) (u : Value) : FourR (w.setCell p u) B V L :=
  ⟨fun k hk => ownsRow_setCell_below (h.1 k hk) hp u, h.2⟩

end Go.Proofs.YtidakannaephoaaDoor

/- Package snap, walked: the reader's page. -/
namespace Go.Proofs.YtidakannaephoaaDoor
set_option maxRecDepth 100000
open Go.RowKit

/-- the reader, in block R: what pages are left, of this size, and what is left of the text of those that are begun -/
def RdL (w : World) (R B : Nat) (oa : Option Addr) (l : List ByteArray) : Prop := ∀ j (h : j < l.length), ∃ g o, oa = some ⟨g, o, none⟩ ∧ g ≠ R ∧ g < B ∧ w.cell? ⟨g, o + j, none⟩ = some (.string l[j])
def RdC (w : World) (R B : Nat) (oa : Option Addr) (cap : Nat) (l : List ByteArray) (Y : Nat) (rest : ByteArray) : Prop :=
  (Blk w R #[.slice oa l.length cap, .int .i64 Y, .string rest] 50 ∧ l.length ≤ cap ∧ cap ≤ maxLen) ∧ RdL w R B oa l
def RdS (w : World) (R B : Nat) (l : List ByteArray) (Y : Nat) (rest : ByteArray) : Prop := ∃ oa cap, RdC w R B oa cap l Y rest
/-- nothing but block R turns -/
def Turns (R : Nat) (w w' : World) : Prop := w.grownBy w' (some R)
theorem Turns.refl (R : Nat) (w : World) : Turns R w w := ⟨rfl, rfl, rfl, Nat.le_refl _, fun _ _ _ => rfl⟩
theorem Turns.set {R : Nat} {w w' : World} (h : Turns R w w') (i : Nat) (v : Value) : Turns R w (w'.setCell ⟨R, i, none⟩ v) := grownX_setCell h _ _ rfl
theorem Turns.trans {R : Nat} {w w' w2 : World} (h : Turns R w w') (h2 : Turns R w' w2) : Turns R w w2 :=
  ⟨h2.os.trans h.os, h2.tape.trans h.tape, h2.output.trans h.output, Nat.le_trans h.size h2.size, fun k hk hne => (h2.block k (Nat.lt_of_lt_of_le hk h.size) hne).trans (h.block k hk hne)⟩
theorem Turns.drew {R : Nat} {w w' : World} (h : Turns R w w') : Turns R w w'.drew := ⟨h.os, h.tape, h.output, h.size, h.block⟩
theorem RdL.tail {w : World} {R B g o : Nat} {p : ByteArray} {l : List ByteArray} (h : RdL w R B (some ⟨g, o, none⟩) (p :: l)) : RdL w R B (some ⟨g, o + 1, none⟩) l := fun j hj => by
  obtain ⟨g', o', e, h1, h2, h3⟩ := h (j + 1) (by simp; omega)
  cases e
  exact ⟨g, o + 1, rfl, h1, h2, by rw [show o + 1 + j = o + (j + 1) by omega]; exact h3⟩
theorem RdL.turns {w w' : World} {R B : Nat} {oa : Option Addr} {l : List ByteArray} (h : RdL w R B oa l) (ht : Turns R w w') : RdL w' R B oa l := fun j hj => by
  obtain ⟨g, o, e, h1, h2, h3⟩ := h j hj
  exact ⟨g, o, e, h1, h2, by rw [World.cell?_of_block (w := w) (ht.block g (cell_lt h3) (fun e => h1 (by cases e; rfl)))]; exact h3⟩
/-- what lies below B stands -/
theorem RdL.below {w w' : World} {R B : Nat} {oa : Option Addr} {l : List ByteArray} (h : RdL w R B oa l) (hb : ∀ k, k < B → w'.heap[k]? = w.heap[k]?) : RdL w' R B oa l := fun j hj => by
  obtain ⟨g, o, e, h1, h2, h3⟩ := h j hj
  exact ⟨g, o, e, h1, h2, by rw [World.cell?_of_block (w := w) (hb g h2)]; exact h3⟩
theorem RdS.below {w w' : World} {R B : Nat} {l : List ByteArray} {Y : Nat} {rest : ByteArray} (h : RdS w R B l Y rest) (hR : R < B) (hb : ∀ k, k < B → w'.heap[k]? = w.heap[k]?) : RdS w' R B l Y rest := by
  obtain ⟨oa, cap, ⟨h1, h2⟩, h3⟩ := h
  exact ⟨oa, cap, ⟨(hb R hR).trans h1, h2⟩, h3.below hb⟩
theorem RdC.cells {w : World} {R B : Nat} {oa : Option Addr} {cap : Nat} {l : List ByteArray} {Y : Nat} {rest : ByteArray} (h : RdC w R B oa cap l Y rest) :
    w.cell? ⟨R, 0, none⟩ = some (.slice oa l.length cap) ∧ w.cell? ⟨R, 1, none⟩ = some (.int .i64 Y) ∧ w.cell? ⟨R, 2, none⟩ = some (.string rest) ∧ w.frozen? ⟨R, 0, none⟩ = false ∧ w.frozen? ⟨R, 2, none⟩ = false :=
  ⟨h.1.1.cell 0, h.1.1.cell 1, h.1.1.cell 2, h.1.1.free 0, h.1.1.free 2⟩
/-- a page taken -/
theorem RdC.take {w : World} {R B g o : Nat} {cap : Nat} {p : ByteArray} {l : List ByteArray} {Y : Nat} {rest : ByteArray} (h : RdC w R B (some ⟨g, o, none⟩) cap (p :: l) Y rest) :
    RdC (w.setCell ⟨R, 0, none⟩ (.slice (some ⟨g, o + 1, none⟩) l.length (cap - 1))) R B (some ⟨g, o + 1, none⟩) (cap - 1) l Y rest := by
  obtain ⟨⟨hb, h1, h2⟩, hl⟩ := h
  simp only [List.length_cons] at h1
  exact ⟨⟨hb.set 0 _ rfl, by omega, by omega⟩, hl.tail.turns ((Turns.refl R w).set 0 _)⟩
theorem RdC.take1 {w : World} {R B g o : Nat} {cap : Nat} {p : ByteArray} {l : List ByteArray} {Y : Nat} {rest : ByteArray} (h : RdC w R B (some ⟨g, o, none⟩) cap (p :: l) Y rest) (hc : cap = 1) :
    RdC (w.setCell ⟨R, 0, none⟩ (.slice (some ⟨g, o, none⟩) l.length 0)) R B (some ⟨g, o, none⟩) 0 l Y rest := by
  obtain ⟨⟨hb, h1, h2⟩, hl⟩ := h
  simp only [List.length_cons] at h1
  exact ⟨⟨hb.set 0 _ rfl, by omega, by omega⟩, fun j hj => by omega⟩
/-- what is left of the text turns -/
theorem RdC.rest {w : World} {R B : Nat} {oa : Option Addr} {cap : Nat} {l : List ByteArray} {Y : Nat} {rest : ByteArray} (h : RdC w R B oa cap l Y rest) (t : ByteArray) : RdC (w.setCell ⟨R, 2, none⟩ (.string t)) R B oa cap l Y t :=
  ⟨⟨h.1.1.set 2 _ rfl, h.1.2⟩, h.2.turns ((Turns.refl R w).set 2 _)⟩

/-- no page is left -/
theorem pg_none (w : World) (R B : Nat) (Y : Nat) (rest : ByteArray) (h : RdS w R B [] Y rest) :
    Calls Tryd.prog 49 #[.pointer (some ⟨R, 0, none⟩)] w fun e w' => e = .panicked snapP ∧ w = w' := by
  obtain ⟨oa, cap, h⟩ := h
  obtain ⟨c0, c1, c2, f0, f2⟩ := h.cells
  clear h
  have hz : ¬ (0 : Int) < ((([] : List ByteArray).length : Nat) : Int) := by simp
  simp only [List.length_nil] at c0 hz
  go_enter Tryd.func49, Tryd.ntmps49
  go_wp2_with fail
  refine (must_no _).mono ?_
  rintro e w1 ⟨rfl, rfl⟩
  exact ⟨rfl, rfl, rfl⟩
/-- one of another size -/
theorem pg_size (w : World) (R B : Nat) (p : ByteArray) (l : List ByteArray) (Y : Nat) (rest : ByteArray) (hp : p.size ≠ Y) (h : RdS w R B (p :: l) Y rest) :
    Calls Tryd.prog 49 #[.pointer (some ⟨R, 0, none⟩)] w fun e w' => e = .panicked snapP ∧ w = w' := by
  obtain ⟨oa, cap, h⟩ := h
  obtain ⟨c0, c1, c2, f0, f2⟩ := h.cells
  obtain ⟨g, o, rfl, _, _, cp⟩ := h.2 0 (by simp)
  have cp : w.cell? ⟨g, o, none⟩ = some (.string p) := cp
  clear h
  obtain ⟨m, hm⟩ : ∃ m, (p :: l).length = m + 1 := ⟨l.length, rfl⟩
  rw [hm] at c0
  have hz : (0 : Int) < (m : Int) + 1 := by omega
  have hs : ((p.size : Int) == (Y : Int)) = false := by simp; omega
  clear hm hp
  go_enter Tryd.func49, Tryd.ntmps49
  go_wp2_with fail
  refine (must_yes _).mono ?_
  rintro e w1 ⟨rfl, rfl⟩
  go_wp2_with fail
  refine (must_no _).mono ?_
  rintro e w1 ⟨rfl, rfl⟩
  exact ⟨rfl, rfl, rfl⟩
/-- one of its size -/
theorem pg_take (w : World) (R B : Nat) (p : ByteArray) (l : List ByteArray) (Y : Nat) (rest : ByteArray) (hp : p.size = Y) (h : RdS w R B (p :: l) Y rest) :
    Calls Tryd.prog 49 #[.pointer (some ⟨R, 0, none⟩)] w fun e w' => e = .returned (.string p) ∧ RdS w' R B l Y rest ∧ Turns R w w' := by
  obtain ⟨oa, cap, h⟩ := h
  obtain ⟨c0, c1, c2, f0, f2⟩ := h.cells
  obtain ⟨g, o, rfl, _, _, cp⟩ := h.2 0 (by simp)
  have cp : w.cell? ⟨g, o, none⟩ = some (.string p) := cp
  have hcap : l.length + 1 ≤ cap ∧ cap ≤ maxLen := ⟨h.1.2.1, h.1.2.2⟩
  have HT := Lib.hid h.take
  have HT1 := Lib.hid h.take1
  clear h
  obtain ⟨m, hm⟩ : ∃ m, l.length = m := ⟨_, rfl⟩
  rw [show (p :: l).length = m + 1 by simp [hm]] at c0
  rw [hm] at hcap HT HT1
  have hz : (0 : Int) < (m : Int) + 1 := by omega
  have h1 : (1 : Int) ≤ (m : Int) + 1 := by omega
  have hk : (m : Int) + 1 ≤ (cap : Int) := by omega
  have hs : ((p.size : Int) == (Y : Int)) = true := by simp; omega
  clear hm hp
  by_cases hc1 : cap = 1
  · subst hc1
    obtain rfl : m = 0 := by omega
    go_enter Tryd.func49, Tryd.ntmps49
    go_wp2_with fail
    refine (must_yes _).mono ?_
    rintro e w1 ⟨rfl, rfl⟩
    go_wp2_with fail
    refine (must_yes _).mono ?_
    rintro e w1 ⟨rfl, rfl⟩
    go_wp2_with fail
    go_ret
    exact ⟨rfl, ⟨_, _, HT1.out trivial⟩, (Turns.refl R _).set 0 _⟩
  · go_enter Tryd.func49, Tryd.ntmps49
    go_wp2_with fail
    refine (must_yes _).mono ?_
    rintro e w1 ⟨rfl, rfl⟩
    go_wp2_with fail
    refine (must_yes _).mono ?_
    rintro e w1 ⟨rfl, rfl⟩
    go_wp2_with fail
    go_ret
    exact ⟨rfl, ⟨_, _, HT.out⟩, (Turns.refl R _).set 0 _⟩

end Go.Proofs.YtidakannaephoaaDoor

/- Package snap, walked: the reader's number. -/
namespace Go.Proofs.YtidakannaephoaaDoor
set_option maxRecDepth 100000
open Go.RowKit

/-- what number answers where there is enough -/
def NumY (R B n : Nat) (l : List ByteArray) (Y : Nat) (rest : ByteArray) (w : World) (e : Ending) (w' : World) : Prop :=
  e = .returned (.int .i64 (numS (rest.extract 0 n))) ∧ RdS w' R B l Y (rest.extract n rest.size) ∧ Turns R w w'
/-- where it gives up -/
def NumN (R : Nat) (w : World) (e : Ending) (w' : World) : Prop := e = .panicked snapP ∧ Turns R w w'

theorem no_specialN {T : World → World → Prop} : ∀ (j : Nat) (a a' : Act) (w w' : World), (fun (_ : Nat) (_ : Act) (_ : World) => False) j a w → (∀ d ∈ [19], a'.tmps.getD d undef = a.tmps.getD d undef) → T w w' → (fun (_ : Nat) (_ : Act) (_ : World) => False) j a' w' := fun _ _ _ _ _ h _ _ => h
theorem ext_size0 (s : ByteArray) (n : Nat) (h : n ≤ s.size) : (s.extract 0 n).size = n := by rw [ByteArray.size_extract]; omega

/-- the rest holds it -/
theorem num_has (w : World) (R B n : Nat) (l : List ByteArray) (Y : Nat) (rest : ByteArray) (h1 : 1 ≤ n) (h6 : n ≤ 6) (_ : rest.size ≤ 1000000) (hn : n ≤ rest.size) (h : RdS w R B l Y rest) :
    Calls Tryd.prog 41 #[.pointer (some ⟨R, 0, none⟩), .int .i64 n] w (NumY R B n l Y rest w) := by
  obtain ⟨oa, cap, h⟩ := h
  have c2 := h.cells.2.2.1
  have f2 := h.cells.2.2.2.2
  have HR := Lib.hid (h.rest (rest.extract n rest.size))
  clear h
  have hle : (n : Int) ≤ (rest.size : Int) := by omega
  have hi : (0 : Int) ≤ (n : Int) := by omega
  obtain ⟨t, ht⟩ : ∃ t, rest.extract 0 n = t := ⟨_, rfl⟩
  have htz : t.size = n := by rw [← ht]; exact ext_size0 _ _ hn
  have HT := Lib.hid ht
  obtain ⟨v, hv⟩ : ∃ v, numS t = v := ⟨_, rfl⟩
  have hvb : 0 ≤ v ∧ v < 281474976710656 := by
    have hb := numTo_bd t t.size (Nat.le_refl _)
    have h3 : p2 (8 * t.size) ≤ p2 48 := p2_le (by omega)
    have h4 : p2 48 = 281474976710656 := by decide
    rw [← hv]; unfold numS; omega
  have HV := Lib.hid hv
  have HGet : Hid (∀ w, Calls Tryd.prog 50 #[.string t] w fun e w' => e = .returned (.tuple #[.int .u64 v, .int .i64 0]) ∧ w = w') := fun w => by
    rw [← hv]; exact get_yes t w (by omega) (by omega)
  clear hv ht htz
  go_enter Tryd.func41, Tryd.ntmps41
  go_wp2_with fail
  refine wp_loop_rounds 1 ?_
  rw [rounds_succ]
  have hlt : ¬ (rest.size : Int) < (n : Int) := by omega
  have hlb : decide ((rest.size : Int) < (n : Int)) = false := decide_eq_false hlt
  go_wp2_with fail
  rw [HT.out]
  refine (HGet.out _).mono ?_
  rintro e w1 ⟨rfl, rfl⟩
  go_wp2_with fail
  refine (must_yes _).mono ?_
  rintro e w1 ⟨rfl, rfl⟩
  go_wp2_with fail
  go_ret
  refine ⟨?_, ⟨_, _, HR.out⟩, (Turns.refl R _).set 2 _⟩
  rw [HT.out, HV.out]
  rfl

/-- what each operation of the region ND leaves -/
def vsND (R : Nat) (rest : ByteArray) : List (Option (Tmp × Value)) :=
  [some (14, .pointer (some ⟨R, 0, none⟩)), some (15, .pointer (some ⟨R, 0, none⟩)), some (16, .pointer (some ⟨R, 2, none⟩)), some (17, .string rest), some (18, .pointer (some ⟨R, 0, none⟩)), none, none, none, none, none]
/-- the frame while the region ND runs -/
def BaseND (R n : Nat) (a : Act) : Prop := ∃ u : Nat → Value, a = ⟨#[.pointer (some ⟨R, 0, none⟩), .int .i64 (n : Int), u 2, u 3, u 4, u 5, u 6, u 7, u 8, u 9, u 10, u 11, u 12, u 13, u 14, u 15, u 16, u 17, u 18, u 19, u 20, u 21, u 22, u 23, u 24, u 25, u 26, u 27, u 28, u 29, u 30, u 31, u 32, u 33, u 34, u 35, u 36, u 37, u 38, u 39, u 40, u 41, u 42, u 43, u 44, u 45, u 46], []⟩
theorem BaseND.of {R n : Nat} (arr : Array Value) (h : arr = #[.pointer (some ⟨R, 0, none⟩), .int .i64 (n : Int), arr.getD 2 undef, arr.getD 3 undef, arr.getD 4 undef, arr.getD 5 undef, arr.getD 6 undef, arr.getD 7 undef, arr.getD 8 undef, arr.getD 9 undef, arr.getD 10 undef, arr.getD 11 undef, arr.getD 12 undef, arr.getD 13 undef, arr.getD 14 undef, arr.getD 15 undef, arr.getD 16 undef, arr.getD 17 undef, arr.getD 18 undef, arr.getD 19 undef, arr.getD 20 undef, arr.getD 21 undef, arr.getD 22 undef, arr.getD 23 undef, arr.getD 24 undef, arr.getD 25 undef, arr.getD 26 undef, arr.getD 27 undef, arr.getD 28 undef, arr.getD 29 undef, arr.getD 30 undef, arr.getD 31 undef, arr.getD 32 undef, arr.getD 33 undef, arr.getD 34 undef, arr.getD 35 undef, arr.getD 36 undef, arr.getD 37 undef, arr.getD 38 undef, arr.getD 39 undef, arr.getD 40 undef, arr.getD 41 undef, arr.getD 42 undef, arr.getD 43 undef, arr.getD 44 undef, arr.getD 45 undef, arr.getD 46 undef]) : BaseND R n ⟨arr, []⟩ := ⟨fun i => arr.getD i undef, by rw [← h]⟩
theorem BaseND.put14 {R n : Nat} (a : Act) (v : Value) (h : BaseND R n a) : BaseND R n (a.put (some 14) v) := by
  obtain ⟨u, rfl⟩ := h
  exact ⟨fun i => if i = 14 then v else u i, by kernel_rfl⟩
theorem BaseND.put15 {R n : Nat} (a : Act) (v : Value) (h : BaseND R n a) : BaseND R n (a.put (some 15) v) := by
  obtain ⟨u, rfl⟩ := h
  exact ⟨fun i => if i = 15 then v else u i, by kernel_rfl⟩
theorem BaseND.put16 {R n : Nat} (a : Act) (v : Value) (h : BaseND R n a) : BaseND R n (a.put (some 16) v) := by
  obtain ⟨u, rfl⟩ := h
  exact ⟨fun i => if i = 16 then v else u i, by kernel_rfl⟩
theorem BaseND.put17 {R n : Nat} (a : Act) (v : Value) (h : BaseND R n a) : BaseND R n (a.put (some 17) v) := by
  obtain ⟨u, rfl⟩ := h
  exact ⟨fun i => if i = 17 then v else u i, by kernel_rfl⟩
theorem BaseND.put18 {R n : Nat} (a : Act) (v : Value) (h : BaseND R n a) : BaseND R n (a.put (some 18) v) := by
  obtain ⟨u, rfl⟩ := h
  exact ⟨fun i => if i = 18 then v else u i, by kernel_rfl⟩
theorem BaseND.put19 {R n : Nat} (a : Act) (v : Value) (h : BaseND R n a) : BaseND R n (a.put (some 19) v) := by
  obtain ⟨u, rfl⟩ := h
  exact ⟨fun i => if i = 19 then v else u i, by kernel_rfl⟩
theorem BaseND.put20 {R n : Nat} (a : Act) (v : Value) (h : BaseND R n a) : BaseND R n (a.put (some 20) v) := by
  obtain ⟨u, rfl⟩ := h
  exact ⟨fun i => if i = 20 then v else u i, by kernel_rfl⟩
theorem BaseND.put21 {R n : Nat} (a : Act) (v : Value) (h : BaseND R n a) : BaseND R n (a.put (some 21) v) := by
  obtain ⟨u, rfl⟩ := h
  exact ⟨fun i => if i = 21 then v else u i, by kernel_rfl⟩
theorem BaseND.put22 {R n : Nat} (a : Act) (v : Value) (h : BaseND R n a) : BaseND R n (a.put (some 22) v) := by
  obtain ⟨u, rfl⟩ := h
  exact ⟨fun i => if i = 22 then v else u i, by kernel_rfl⟩

/-- a page is wanted, and there is none, or one of another size -/
theorem num_none (w : World) (R B n : Nat) (l : List ByteArray) (Y : Nat) (rest : ByteArray) (hn : rest.size < n) (_ : rest.size ≤ 1000000) (hl : ∀ p r, l = p :: r → p.size ≠ Y) (h : RdS w R B l Y rest) :
    Calls Tryd.prog 41 #[.pointer (some ⟨R, 0, none⟩), .int .i64 n] w (NumN R w) := by
  have HPG : Hid (∀ w', w = w' → Calls Tryd.prog 49 #[.pointer (some ⟨R, 0, none⟩)] w'.drew fun e w2 => e = .panicked snapP ∧ w'.drew = w2) := fun w' hw => by
    subst hw
    have hd : RdS w.drew R B l Y rest := by obtain ⟨oa, cap, h1⟩ := h; exact ⟨oa, cap, h1⟩
    cases l with
    | nil => exact pg_none _ _ _ _ _ hd
    | cons p r => exact pg_size _ _ _ _ _ _ _ (hl p r rfl) hd
  obtain ⟨oa, cap, h⟩ := h
  have c2 := h.cells.2.2.1
  have f2 := h.cells.2.2.2.2
  clear h hl
  have hlt : (rest.size : Int) < (n : Int) := by omega
  go_enter Tryd.func41, Tryd.ntmps41
  go_wp2_with fail
  refine wp_loop_rounds 1 ?_
  rw [rounds_succ]
  go_wp2_with fail
  rename_i K0 hK0
  refine wp_region_list3 (SV (vsND R rest) [19]) (BaseND R n) (fun w' => w' = w.drew) (fun _ _ => True) (RV (vsND R rest) (fun _ _ _ => False)) rfl (by kernel_rfl) (RV.ext no_specialN) ?_ (rfl) (BaseND.of _ (by kernel_rfl)) ?_ ?_
  · exact ⟨BaseND.put14, BaseND.put15, BaseND.put16, BaseND.put17, BaseND.put18, BaseND.put19, BaseND.put20, BaseND.put21, BaseND.put22, fun a v h => h, trivial⟩
  · refine ⟨?_, ?_, ?_, ?_, ?_, ?_, ?_, ?_, ?_, ?_, trivial⟩
    all_goals
      intro a w' hC hB hR
      obtain ⟨u, rfl⟩ := hB
      have HC := Lib.hid hC
      clear hC
      clear hK0
    · clear hR
      refine if_yes (by kernel_rfl) ?_
      unfold Oper.wp
      go_simp
      exact ⟨.pointer (some ⟨R, 0, none⟩), rfl, HC.out, trivial, rfl⟩
    · have h14 : u 14 = .pointer (some ⟨R, 0, none⟩) := hR ⟨0, .data⟩ (by simp) rfl
      clear hR
      simp only [h14]
      clear h14
      refine if_yes (by kernel_rfl) ?_
      unfold Oper.wp
      go_simp
      exact ⟨.pointer (some ⟨R, 0, none⟩), rfl, HC.out, trivial, rfl⟩
    · have h15 : u 15 = .pointer (some ⟨R, 0, none⟩) := hR ⟨1, .data⟩ (by simp) rfl
      clear hR
      simp only [h15]
      clear h15
      refine if_yes (by kernel_rfl) ?_
      unfold Oper.wp
      go_simp
      exact ⟨.pointer (some ⟨R, 2, none⟩), rfl, HC.out, trivial, rfl⟩
    · have h16 : u 16 = .pointer (some ⟨R, 2, none⟩) := hR ⟨2, .data⟩ (by simp) rfl
      have hc : w'.cell? ⟨R, 2, none⟩ = some (.string rest) := by rw [HC.out]; exact c2
      clear hR
      simp only [h16]
      clear h16
      refine if_yes (by kernel_rfl) ?_
      unfold Oper.wp
      go_simp
      exact ⟨.string rest, rfl, HC.out, trivial, rfl⟩
    · clear hR
      refine if_yes (by kernel_rfl) ?_
      unfold Oper.wp
      go_simp
      exact ⟨.pointer (some ⟨R, 0, none⟩), rfl, HC.out, trivial, rfl⟩
    · have h18 : u 18 = .pointer (some ⟨R, 0, none⟩) := hR ⟨4, .data⟩ (by simp) rfl
      clear hR
      simp only [h18]
      clear h18
      refine if_yes (by kernel_rfl) ?_
      unfold Oper.wp
      go_simp
      rw [HC.out]
      refine (HPG.out _ rfl).mono ?_
      rintro e w2 ⟨rfl, rfl⟩
      exact ⟨rfl, rfl, (Turns.refl R _).drew⟩
    · have h17 : u 17 = .string rest := hR ⟨3, .data⟩ (by simp) rfl
      have hF : False := hR ⟨5, .data⟩ (by simp) rfl
      clear hR
      simp only [h17]
      clear h17
      refine if_yes (by kernel_rfl) ?_
      exact hF.elim
    · have h14 : u 14 = .pointer (some ⟨R, 0, none⟩) := hR ⟨0, .data⟩ (by simp) rfl
      have hF : False := hR ⟨5, .phase⟩ (by simp) rfl
      clear hR
      simp only [h14]
      clear h14
      refine if_yes (by kernel_rfl) ?_
      exact hF.elim
    · have hF : False := hR ⟨5, .phase⟩ (by simp) rfl
      clear hR
      refine if_yes (by kernel_rfl) ?_
      exact hF.elim
    · have hF : False := hR ⟨5, .phase⟩ (by simp) rfl
      clear hR
      refine if_yes (by kernel_rfl) ?_
      exact hF.elim
  · intro a w' hC hB hR
    exact (hR 5 (by decide) : False).elim

/-- a page is wanted, and there is one -/
theorem num_page (w : World) (R B n : Nat) (p : ByteArray) (l : List ByteArray) (Y : Nat) (rest : ByteArray) (h1 : 1 ≤ n) (h6 : n ≤ 6) (hn : rest.size < n) (hp : p.size = Y) (hY : 6 ≤ Y) (hY2 : Y ≤ 256) (h : RdS w R B (p :: l) Y rest) :
    Calls Tryd.prog 41 #[.pointer (some ⟨R, 0, none⟩), .int .i64 n] w (NumY R B n l Y (rest ++ p) w) := by
  have HPG : Hid (∀ w', w = w' → Calls Tryd.prog 49 #[.pointer (some ⟨R, 0, none⟩)] w'.drew fun e w2 => e = .returned (.string p) ∧ RdS w2 R B l Y rest ∧ Turns R w'.drew w2) := fun w' hw => by
    subst hw
    have hd : RdS w.drew R B (p :: l) Y rest := by obtain ⟨oa, cap, h1⟩ := h; exact ⟨oa, cap, h1⟩
    exact pg_take _ _ _ _ _ _ _ hp hd
  obtain ⟨oa, cap, h⟩ := h
  have c2 := h.cells.2.2.1
  have f2 := h.cells.2.2.2.2
  clear h
  have hlt : (rest.size : Int) < (n : Int) := by omega
  have hno : ¬ 9223372036854775807 < rest.size + p.size := by omega
  have hsz : (rest ++ p).size = rest.size + p.size := ByteArray.size_append
  have HNP : Hid (n ≤ (rest ++ p).size ∧ (rest ++ p).size ≤ 1000) := by show _ ∧ _; rw [hsz]; omega
  obtain ⟨q, hq⟩ : ∃ q, rest ++ p = q := ⟨_, rfl⟩
  rw [hq] at HNP ⊢
  have HQ := Lib.hid hq
  clear hp hsz hq hn
  go_enter Tryd.func41, Tryd.ntmps41
  go_wp2_with fail
  refine wp_loop_rounds 2 ?_
  rw [rounds_succ]
  go_wp2_with fail
  go_region_law (first
    | (go_simp; go_at_call 49; refine (HPG.out _ rfl).mono ?_; rintro e w' ⟨rfl, ⟨oa', cap', hrd⟩, htu⟩; obtain ⟨d0, d1, d2, e0, e2⟩ := hrd.cells))
  all_goals
    rw [HQ.out]
    have HRD := Lib.hid (hrd.rest q)
    have HTU : Hid (Turns R w (w'.setCell ⟨R, 2, none⟩ (.string q))) := (((Turns.refl R w).drew).trans htu).set 2 _
    clear hrd htu d0 d1 d2 e0 e2 hno hlt
    generalize w'.setCell ⟨R, 2, none⟩ (.string q) = w3 at HRD HTU ⊢
    have c2 := HRD.out.cells.2.2.1
    have f2 := HRD.out.cells.2.2.2.2
    have HR := Lib.hid (HRD.out.rest (q.extract n q.size))
    have hnq := HNP.out.1
    have hle : (n : Int) ≤ (q.size : Int) := by omega
    have hlt : ¬ (q.size : Int) < (n : Int) := by omega
    have hlb : decide ((q.size : Int) < (n : Int)) = false := decide_eq_false hlt
    have hi : (0 : Int) ≤ (n : Int) := by omega
    obtain ⟨t, ht⟩ : ∃ t, q.extract 0 n = t := ⟨_, rfl⟩
    have htz : t.size = n := by rw [← ht]; exact ext_size0 _ _ hnq
    have HT := Lib.hid ht
    obtain ⟨v, hv⟩ : ∃ v, numS t = v := ⟨_, rfl⟩
    have hvb : 0 ≤ v ∧ v < 281474976710656 := by
      have hb := numTo_bd t t.size (Nat.le_refl _)
      have h3 : p2 (8 * t.size) ≤ p2 48 := p2_le (by omega)
      have h4 : p2 48 = 281474976710656 := by decide
      rw [← hv]; unfold numS; omega
    have HV := Lib.hid hv
    have HGet : Hid (∀ w, Calls Tryd.prog 50 #[.string t] w fun e w' => e = .returned (.tuple #[.int .u64 v, .int .i64 0]) ∧ w = w') := fun w => by
      rw [← hv]; exact get_yes t w (by omega) (by omega)
    clear hv ht htz hnq HPG
    go_wp2_with fail
    rw [rounds_succ]
    go_wp2_with fail
    rw [HT.out]
    refine (HGet.out _).mono ?_
    rintro e w1 ⟨rfl, rfl⟩
    go_wp2_with fail
    refine (must_yes _).mono ?_
    rintro e w1 ⟨rfl, rfl⟩
    go_wp2_with fail
    go_ret
    refine ⟨?_, ⟨_, _, HR.out⟩, HTU.out.set 2 _⟩
    rw [HT.out, HV.out]
    rfl

end Go.Proofs.YtidakannaephoaaDoor
