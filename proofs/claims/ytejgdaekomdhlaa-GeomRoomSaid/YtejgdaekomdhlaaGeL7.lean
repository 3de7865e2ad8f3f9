/- Layer 6: GeomRoom's walk. -/
import Derived.Test.YtejgdaekomdhlaaGeL1
import Derived.Test.YtejgdaekomdhlaaGeW
import Derived.Test.YtejgdaekomdhlaaBs
import Derived.Test.YtejgdaekomdhlaaArgs
import Derived.Deep.RegionWith
import Derived.Deep.QuietTactic
import Derived.BigQuiet
namespace Go.Proofs.Ytejgdaekomdhlaa
set_option maxRecDepth 100000
open Go.RowKit

theorem book_below (n by' : Int) (w : World) (h0 : 0 < by') (h1 : by' ≤ 1000) : Calls Try.prog 25 #[.int .i64 n, .int .i64 by'] w fun r w' => r = .returned (.int .i64 (n % by')) ∧ w = w' := by
  have hm := Int.tmod_eq_emod (a := n) (b := by')
  have hlt := Int.emod_lt_of_pos n h0
  have hge := Int.emod_nonneg n (b := by') (by omega)
  have hab : (by'.natAbs : Int) = by' := by omega
  obtain ⟨x, hx⟩ : ∃ x, n.tmod by' = x := ⟨_, rfl⟩
  obtain ⟨y, hy⟩ : ∃ y, n % by' = y := ⟨_, rfl⟩
  rw [hx, hy] at hm
  rw [hy] at hlt hge ⊢
  have hb' : by' ≠ 0 := by omega
  have hxy : (x < 0 → x + by' = y) ∧ (¬ x < 0 → x = y) := by
    by_cases hc : 0 ≤ n ∨ by' ∣ n
    · rw [if_pos hc] at hm; omega
    · rw [if_neg hc, hab] at hm; omega
  by_cases hneg : x < 0
  · have hxy2 := hxy.1 hneg
    have hlo : -1000 ≤ x := by omega
    clear hm hy hxy
    go_enter Try.func25, Try.ntmps25
    go_wp2
    go_ret
    exact ⟨rfl, rfl⟩
  · have hxy2 := hxy.2 hneg
    clear hm hy hxy
    subst hxy2
    go_enter Try.func25, Try.ntmps25
    go_wp2
    go_ret
    exact ⟨rfl, rfl⟩

/-- the sum of some numbers -/
def sumI : List Int → Int
  | [] => 0
  | x :: l => x + sumI l
theorem sumI_append : ∀ a b : List Int, sumI (a ++ b) = sumI a + sumI b
  | [], b => by simp [sumI]
  | x :: a, b => by simp only [List.cons_append, sumI, sumI_append a b]; omega
theorem sumI_snoc (l : List Int) (x : Int) : sumI (l ++ [x]) = sumI l + x := by
  induction l with
  | nil => simp [sumI]
  | cons y l ih => simp only [List.cons_append, sumI, ih]; omega

theorem drewN_below (w : World) (n : Nat) : Below w.heap.size w (w.drewN n) := ⟨rfl, rfl, rfl, Nat.le_refl _, fun _ _ => rfl⟩
theorem sum_take (l : List Int) (j : Nat) (h : j < l.length) : sumI (l.take (j + 1)) = sumI (l.take j) + l.getD j 0 := by
  rw [List.take_add_one, sumI_append, List.getD, List.getElem?_eq_getElem h]
  simp [sumI]
theorem sum_two (l : List Int) (h : 2 ≤ l.length) : sumI (l.take 2) = l.getD 0 0 + l.getD 1 0 := by
  rw [sum_take l 1 (by omega), sum_take l 0 (by omega)]
  simp [sumI]
theorem getD_mem (l : List Int) (i : Nat) (h : i < l.length) : l.getD i 0 ∈ l := by
  simp [List.getD, h]
/-- what a round of the second loop leaves -/
theorem room_next {j k : Nat} {ns : List Int} {a c x : Int} (h : Two (j + 2) (sumI (ns.take (j + 2))) a c) (hk : ns.length = k) (hns : ∀ x ∈ ns, 0 ≤ x ∧ x ≤ 4096) (hjk : j + 2 < k) (hx : ns.getD (j + 2) 0 = x) :
    (x < a → Two (j + 1 + 2) (sumI (ns.take (j + 1 + 2))) x a) ∧ (¬ x < a → x < c → Two (j + 1 + 2) (sumI (ns.take (j + 1 + 2))) a x) ∧ (¬ x < c → Two (j + 1 + 2) (sumI (ns.take (j + 1 + 2))) a c) := by
  have hs : sumI (ns.take (j + 1 + 2)) = sumI (ns.take (j + 2)) + x := by
    rw [show j + 1 + 2 = (j + 2) + 1 by omega, sum_take ns (j + 2) (by omega), hx]
  have h0 : 0 ≤ x := by rw [← hx]; exact (hns _ (getD_mem _ _ (by omega))).1
  rw [hs, show j + 1 + 2 = (j + 2) + 1 by omega]
  exact ⟨fun h1 => h.least (by omega) h0 h1, fun h1 h2 => h.next (by omega) (by omega) h2, fun h1 => h.other (by omega)⟩
/-- what a round of the first loop leaves -/
theorem room_round {w wq w1 : World} {b l y n s r lf q : Int} {k : Nat} {ns : List Int} {lv lv' : Value} {o : Obj} (hown : wq.ownsRow (w.heap.size + 1) 3 1 lv k (ns.map (Value.int .i64)))
    (hown1 : w1.ownsRow (w.heap.size + 1) 3 1 lv' (k + 1) (ns.map (Value.int .i64) ++ [.int .i64 q])) (hgrow : (wq.alloc o).grownBy w1 lv.ownBlock) (hcg : CG w b l y n s r wq)
    (hk : ns.length = k) (hlf : n - sumI ns = lf) (hns : ∀ x ∈ ns, 0 ≤ x ∧ x ≤ 4096) (hq0 : 0 ≤ q) (hq1 : q ≤ lf) (hl1 : lf ≤ 4096) :
    (ns ++ [q]).length = k + 1 ∧ n - sumI (ns ++ [q]) = lf - q ∧ 0 ≤ n - sumI (ns ++ [q]) ∧ n - sumI (ns ++ [q]) ≤ 4096 ∧ (∀ x ∈ ns ++ [q], 0 ≤ x ∧ x ≤ 4096) ∧
      w1.ownsRow (w.heap.size + 1) 3 1 lv' (ns ++ [q]).length ((ns ++ [q]).map (Value.int .i64)) ∧ CG w b l y n s r w1 := by
  have hlen : (ns ++ [q]).length = k + 1 := by rw [List.length_append, hk]; rfl
  have hs : n - sumI (ns ++ [q]) = lf - q := by rw [sumI_snoc]; omega
  have hlt := hcg.1.lt
  have hb := own_below hown (by omega) hgrow
  refine ⟨hlen, hs, by omega, by omega, ?_, by rw [hlen, List.map_append]; exact hown1, hcg.1.below hb (by omega), hcg.2.trans (hb.mono (by omega))⟩
  intro x hx
  rcases List.mem_append.1 hx with hx | hx
  · exact hns x hx
  · rw [List.mem_singleton.1 hx]; omega
theorem infoInt : (Try.prog.info? 3).map (fun i => (i.zero, i.size, i.bytes)) = some (some (.int .i64 0), 1, 8) := by kernel_rfl

set_option maxHeartbeats 2000000 in
theorem walk_GeomRoom (b l y n s r : Int) (oa : Option Addr) (cap : Nat) (zs : List Int) (hzl : zs.length ≤ maxLen) (w : World) (hcs : IntsArg w oa zs) :
    Calls Try.prog 6 #[.agg (gv b l y n s r), .slice oa zs.length cap] w fun e w' => e = .returned (.bool true) ∧ Below w.heap.size w w' := by
  have HK0 : Hid (CG w b l y n s r (w.alloc (.cells (gv b l y n s r) 23))) := ⟨Blk.new w _ _, (Below.refl w.heap.size w).alloc (Nat.le_refl _) _⟩
  have HCS := Lib.hid hcs
  obtain ⟨m, hm⟩ : ∃ m, zs.length = m := ⟨_, rfl⟩
  rw [hm] at hzl ⊢
  have hm2 : (m : Int) ≤ 9223372036854775807 := by unfold maxLen at hzl; omega
  have HM := Lib.hid hm
  clear hcs hm hzl
  go_enter Try.func6, Try.ntmps6
  go_wp2_with fail
  refine (works_any _).mono ?_
  rintro e w1 ⟨rfl, hb1⟩
  have HK1 := Lib.hid (HK0.out.call hb1)
  clear hb1 HK0
  go_wp2_with (refine wpList_load_row rfl 23 (.tmp 2) rfl w.heap.size rfl 23 (gv b l y n s r) (0, 0) _ HK1.out.1 Try.underlying23 rfl size_geo ?_)
  refine (ge_check b l y n s r _).mono ?_
  rintro e w2 ⟨rfl, hb2⟩
  have HK2 := Lib.hid (HK1.out.call hb2)
  clear hb2 HK1
  by_cases hok : OkG b l y n s r
  · rw [chk_ok hok]
    have HOK := Lib.hid hok
    obtain ⟨⟨h1, h2, h3, h4, h5, h6, h7, h8, h9, h10, h11, h12, h13, h14⟩, h15, h16⟩ := hok
    obtain ⟨d, hd⟩ : ∃ d : Nat, (b - s - 4).toNat = d := ⟨_, rfl⟩
    have hdi : b - s - 4 = (d : Int) := by omega
    have hd4 : 4 ≤ d := by omega
    have hd60 : d ≤ 60 := by omega
    have HD := Lib.hid hdi
    have hl6 := h3
    have hl64 := h4
    clear h1 h2 h3 h4 h5 h6 h7 h8 h9 h10 h11 h12 h15 h16 hd
    have hc0 : w2.cell? ⟨w.heap.size, 0, none⟩ = some (.int .i64 b) := HK2.out.1.cell 0
    have hc1 : w2.cell? ⟨w.heap.size, 1, none⟩ = some (.int .i64 l) := HK2.out.1.cell 1
    have hc3 : w2.cell? ⟨w.heap.size, 3, none⟩ = some (.int .i64 n) := HK2.out.1.cell 3
    have hc4 : w2.cell? ⟨w.heap.size, 4, none⟩ = some (.int .i64 s) := HK2.out.1.cell 4
    have hB2 : w.heap.size < w2.heap.size := HK2.out.1.lt
    have HIA := Lib.hid (show ∀ W, Below w.heap.size w W → IntsArg W oa zs from fun W h i hi => by
      obtain ⟨a, ha, hab, hcl⟩ := HCS.out i hi
      refine ⟨a, ha, Nat.lt_of_lt_of_le hab (h.size), (h.cell (p := a.add i) (by rw [add_block]; exact hab)).trans hcl⟩)
    obtain ⟨i0, hi, hz0, hz1, hz2⟩ := info_parts infoInt
    go_wp2_with fail
    go_loopw [6, 7, 8] (fun lf lv i wr => ∃ ns : List Int, ns.length ≤ d ∧ i = .int .i64 (ns.length : Nat) ∧ lf = .int .i64 (n - sumI ns) ∧ 0 ≤ n - sumI ns ∧ n - sumI ns ≤ 4096 ∧ (∀ x ∈ ns, 0 ≤ x ∧ x ≤ 4096) ∧
      wr.ownsRow (w.heap.size + 1) 3 1 lv ns.length (ns.map (Value.int .i64)) ∧ CG w b l y n s r wr) (fun _ _ i _ => d - (intOf i).toNat)
    case atStart => exact ⟨[], Nat.zero_le _, rfl, by simp [sumI], by simp [sumI]; omega, by simp [sumI]; omega, (fun x h => by cases h), ⟨rfl, Or.inl ⟨rfl, rfl⟩⟩, HK2.out⟩
    case round =>
      obtain ⟨ns, hk, rfl, rfl, hl0, hl1, hns, hown, hcg⟩ := hrel
      obtain ⟨k, hkl⟩ : ∃ k, ns.length = k := ⟨_, rfl⟩
      obtain ⟨lf, hlf⟩ : ∃ lf, n - sumI ns = lf := ⟨_, rfl⟩
      rw [hkl] at hk hown ⊢
      rw [hlf] at hl0 hl1 ⊢
      have HKL := Lib.hid hkl
      have HLF := Lib.hid hlf
      have HNS := Lib.hid hns
      have HCG := Lib.hid hcg
      have hc1r : wr.cell? ⟨w.heap.size, 1, none⟩ = some (.int .i64 l) := hcg.1.cell 1
      have hia := HIA.out wr hcg.2
      have HIR := Lib.hid hia
      clear hkl hlf hns hcg hia
      by_cases hlt : k < d
      · by_cases hkm : k < m
        · obtain ⟨a, rfl, hab, hcl⟩ := HIR.out k (by rw [HM.out]; exact hkm)
          obtain ⟨v, hv⟩ : ∃ v, zs.getD k 0 = v := ⟨_, rfl⟩
          rw [hv] at hcl
          clear hv hab
          obtain ⟨t, ht⟩ : ∃ t, 3 * l + 1 = t := ⟨_, rfl⟩
          have HBL : Hid (∀ w, Calls Try.prog 25 #[.int .i64 v, .int .i64 t] w fun r w' => r = .returned (.int .i64 (v % t)) ∧ w' = w) :=
            fun w => (book_below v t w (by omega) (by omega)).mono fun _ _ h => ⟨h.1, h.2.symm⟩
          go_wp2_with fail
          go_quiet (first | (go_at_call 25; exact Calls.quiet_of_same (HBL.out _)))
          obtain ⟨q, hq⟩ : ∃ q, (if lf < v % t then lf else v % t) = q := ⟨_, rfl⟩
          have hq0 : 0 ≤ q := by
            rw [← hq]
            split
            · exact hl0
            · exact Int.emod_nonneg _ (by omega)
          have hq1 : q ≤ lf := by rw [← hq]; split <;> omega
          rw [hq]
          have hown2 : (wr.drewN nq).ownsRow (w.heap.size + 1) 3 1 u7 k (ns.map (Value.int .i64)) := hown
          have HCG2 : Hid (CG w b l y n s r (wr.drewN nq)) := ⟨HCG.out.1.drewN, HCG.out.2.trans ((drewN_below wr nq).mono (by have := HCG.out.1.lt; omega))⟩
          clear hq ht hcl HBL hown hc1r HCG HIR
          generalize wr.drewN nq = wq at hown2 HCG2 ⊢
          go_wp2_with (at_builtin; refine wpList_append_own _ rfl _ _ 36 rfl (w.heap.size + 1) 3 i0 (.int .i64 0) 1 8 Try.underlying36 hi hz0 hz1 hz2 rfl (by decide) _ _ _ rfl (hown2.alloc _) ⟨wq.heap.size, 0, none⟩ 1 1 [.int .i64 q] rfl rfl ?c1 ?c2 ?c3 ?c4 ?c5 ?_)
          case c1 => exact cell_one_new _ _ _
          case c2 => intro u hu; simp at hu; subst hu; rfl
          case c3 => unfold maxLen; omega
          case c4 => omega
          case c5 => have := HCG2.out.1.lt; simp; omega
          intro v' w1 hown1 hgrow _
          have HR := Lib.hid (room_round hown2 hown1 hgrow HCG2.out HKL.out HLF.out HNS.out hq0 hq1 hl1)
          clear hown1 hgrow hown2
          go_wp2_with fail
          go_roundw
          case rel => exact ⟨ns ++ [q], by rw [HR.out.1]; omega, by rw [HR.out.1]; go_num, by rw [HR.out.2.1], HR.out.2.2⟩
          case measure => simp [intOf]; omega
        · have hown2 := hown
          have HCG2 := HCG
          have hq0 : (0 : Int) ≤ 0 := Int.le_refl _
          clear hown hc1r HCG HIR
          go_wp2_with (at_builtin; refine wpList_append_own _ rfl _ _ 36 rfl (w.heap.size + 1) 3 i0 (.int .i64 0) 1 8 Try.underlying36 hi hz0 hz1 hz2 rfl (by decide) _ _ _ rfl (hown2.alloc _) ⟨wr.heap.size, 0, none⟩ 1 1 [.int .i64 0] rfl rfl ?c1 ?c2 ?c3 ?c4 ?c5 ?_)
          case c1 => exact cell_one_new _ _ _
          case c2 => intro u hu; simp at hu; subst hu; rfl
          case c3 => unfold maxLen; omega
          case c4 => omega
          case c5 => have := HCG2.out.1.lt; simp; omega
          intro v' w1 hown1 hgrow _
          have HR := Lib.hid (room_round hown2 hown1 hgrow HCG2.out HKL.out HLF.out HNS.out hq0 hl0 hl1)
          clear hown1 hgrow hown2
          go_wp2_with fail
          go_roundw
          case rel => exact ⟨ns ++ [0], by rw [HR.out.1]; omega, by rw [HR.out.1]; go_num, by rw [HR.out.2.1]; simp, HR.out.2.2⟩
          case measure => simp [intOf]; omega
      · obtain rfl : k = d := by omega
        have hd1 : ¬ ((k : Int) < 2) := by omega
        rcases hown.2 with ⟨_, h0⟩ | ⟨g, cp, cur, rfl, hgB, hgc, hkc, hcm, _, _⟩
        · omega
        have HCL : Hid (∀ j, j < k → wr.cell? ⟨g, j, none⟩ = some (.int .i64 (ns.getD j 0))) := by
          show ∀ j, j < k → wr.cell? ⟨g, j, none⟩ = some (.int .i64 (ns.getD j 0))
          intro j hj
          have h := hown.cells (g := g) rfl j (.int .i64 (ns.getD j 0)) (by rw [List.getElem?_map]; have h3 : j < ns.length := by rw [HKL.out]; exact hj
                                                                            simp [List.getD, h3])
          cases j with
          | zero => simpa [Addr.add] using h
          | succ j => simpa [Addr.add] using h
        have HTW : Hid (∀ a c, Two k (sumI ns) a c → a + c ≤ 3 * l) := fun a c h => h.room HOK.out HD.out.symm (by have := HLF.out; omega)
        have hx0 : wr.cell? ⟨g, 0, none⟩ = some (.int .i64 (ns.getD 0 0)) := HCL.out 0 (by omega)
        have hx1 : wr.cell? ⟨g, 1, none⟩ = some (.int .i64 (ns.getD 1 0)) := HCL.out 1 (by omega)
        obtain ⟨x0, hx0e⟩ : ∃ x, ns.getD 0 0 = x := ⟨_, rfl⟩
        obtain ⟨x1, hx1e⟩ : ∃ x, ns.getD 1 0 = x := ⟨_, rfl⟩
        rw [hx0e] at hx0
        rw [hx1e] at hx1
        have HX0 := Lib.hid hx0e
        have HX1 := Lib.hid hx1e
        have hk0 : (0 : Int) < (k : Int) := by omega
        have hk1 : (1 : Int) < (k : Int) := by omega
        have hkn : k ≤ cp := hkc
        have hk2 : 2 ≤ k := by omega
        clear hown hgc HIR hx0e hx1e
        go_wp2_with fail
        go_quiet (fail)
        have hns0 : 0 ≤ x0 ∧ 0 ≤ x1 := by
          constructor
          · rw [← HX0.out]; exact (HNS.out _ (getD_mem _ _ (by rw [HKL.out]; omega))).1
          · rw [← HX1.out]; exact (HNS.out _ (getD_mem _ _ (by rw [HKL.out]; omega))).1
        have hs2 : sumI (ns.take 2) = x0 + x1 := by rw [sum_two ns (by rw [HKL.out]; omega), HX0.out, HX1.out]
        by_cases hlt1 : x1 < x0
        · have HST : Hid (Two (0 + 2) (sumI (ns.take (0 + 2))) x1 x0) := by show Two 2 (sumI (ns.take 2)) x1 x0; rw [hs2]; exact Two.start' hns0.2 hlt1
          clear hs2 hns0
          go_wp2_with fail
          go_loop [10, 11, 71] (fun A C i => ∃ (j : Nat) (a c : Int), j + 2 ≤ k ∧ i = .int .i64 j ∧ A = .int .i64 a ∧ C = .int .i64 c ∧ Two (j + 2) (sumI (ns.take (j + 2))) a c) (fun _ _ i => k - (intOf i).toNat)
          case atStart => exact ⟨0, _, _, hk2, rfl, rfl, rfl, HST.out⟩
          case round =>
            obtain ⟨j, a, c, hj, rfl, rfl, rfl, htw⟩ := hrel
            have HTJ := Lib.hid htw
            clear htw
            by_cases hjk : j + 2 < k
            · have hxj := HCL.out (j + 2) hjk
              obtain ⟨x, hxe⟩ : ∃ x, ns.getD (j + 2) 0 = x := ⟨_, rfl⟩
              rw [hxe] at hxj
              have HXE := Lib.hid hxe
              have hxj2 := hxj
              rw [Nat.add_comm j 2] at hxj2
              have hjki : (j : Int) + 2 < (k : Int) := by omega
              have HN := Lib.hid (room_next HTJ.out HKL.out HNS.out hjk HXE.out)
              clear hxe
              by_cases hxa : x < a
              · have HR := Lib.hid (HN.out.1 hxa)
                go_wp2_with fail
                go_round
                case rel => exact ⟨j + 1, x, a, by omega, by go_num, rfl, rfl, HR.out⟩
                case measure => simp [intOf]; omega
              · by_cases hxc : x < c
                · have HR := Lib.hid (HN.out.2.1 hxa hxc)
                  go_wp2_with fail
                  go_round
                  case rel => exact ⟨j + 1, a, x, by omega, by go_num, rfl, rfl, HR.out⟩
                  case measure => simp [intOf]; omega
                · have HR := Lib.hid (HN.out.2.2 hxc)
                  go_wp2_with fail
                  go_round
                  case rel => exact ⟨j + 1, a, c, by omega, by go_num, rfl, rfl, HR.out⟩
                  case measure => simp [intOf]; omega
            · obtain rfl : j + 2 = k := by omega
              have hjk' : ¬ (j : Int) + 2 < ((j + 2 : Nat) : Int) := by omega
              have hac : a + c ≤ 3 * l := HTW.out a c (by have h := HTJ.out; rwa [List.take_of_length_le (by rw [HKL.out]; exact Nat.le_refl _)] at h)
              have ha0 : 0 ≤ a := HTJ.out.1
              have hc0' : a ≤ c := HTJ.out.2.1
              go_wp2_with fail
              go_ret
              exact ⟨rfl, HCG.out.2.trans ((drewN_below wr nq).mono (by have := HCG.out.1.lt; omega))⟩
        · have HST : Hid (Two (0 + 2) (sumI (ns.take (0 + 2))) x0 x1) := by show Two 2 (sumI (ns.take 2)) x0 x1; rw [hs2]; exact Two.start hns0.1 (by omega)
          clear hs2 hns0
          go_wp2_with fail
          go_loop [10, 11, 71] (fun A C i => ∃ (j : Nat) (a c : Int), j + 2 ≤ k ∧ i = .int .i64 j ∧ A = .int .i64 a ∧ C = .int .i64 c ∧ Two (j + 2) (sumI (ns.take (j + 2))) a c) (fun _ _ i => k - (intOf i).toNat)
          case atStart => exact ⟨0, _, _, hk2, rfl, rfl, rfl, HST.out⟩
          case round =>
            obtain ⟨j, a, c, hj, rfl, rfl, rfl, htw⟩ := hrel
            have HTJ := Lib.hid htw
            clear htw
            by_cases hjk : j + 2 < k
            · have hxj := HCL.out (j + 2) hjk
              obtain ⟨x, hxe⟩ : ∃ x, ns.getD (j + 2) 0 = x := ⟨_, rfl⟩
              rw [hxe] at hxj
              have HXE := Lib.hid hxe
              have hxj2 := hxj
              rw [Nat.add_comm j 2] at hxj2
              have hjki : (j : Int) + 2 < (k : Int) := by omega
              have HN := Lib.hid (room_next HTJ.out HKL.out HNS.out hjk HXE.out)
              clear hxe
              by_cases hxa : x < a
              · have HR := Lib.hid (HN.out.1 hxa)
                go_wp2_with fail
                go_round
                case rel => exact ⟨j + 1, x, a, by omega, by go_num, rfl, rfl, HR.out⟩
                case measure => simp [intOf]; omega
              · by_cases hxc : x < c
                · have HR := Lib.hid (HN.out.2.1 hxa hxc)
                  go_wp2_with fail
                  go_round
                  case rel => exact ⟨j + 1, a, x, by omega, by go_num, rfl, rfl, HR.out⟩
                  case measure => simp [intOf]; omega
                · have HR := Lib.hid (HN.out.2.2 hxc)
                  go_wp2_with fail
                  go_round
                  case rel => exact ⟨j + 1, a, c, by omega, by go_num, rfl, rfl, HR.out⟩
                  case measure => simp [intOf]; omega
            · obtain rfl : j + 2 = k := by omega
              have hjk' : ¬ (j : Int) + 2 < ((j + 2 : Nat) : Int) := by omega
              have hac : a + c ≤ 3 * l := HTW.out a c (by have h := HTJ.out; rwa [List.take_of_length_le (by rw [HKL.out]; exact Nat.le_refl _)] at h)
              have ha0 : 0 ≤ a := HTJ.out.1
              have hc0' : a ≤ c := HTJ.out.2.1
              go_wp2_with fail
              go_ret
              exact ⟨rfl, HCG.out.2.trans ((drewN_below wr nq).mono (by have := HCG.out.1.lt; omega))⟩
  · rw [chk_no hok]
    go_wp2_with fail
    go_ret
    exact ⟨rfl, HK2.out.2⟩

end Go.Proofs.Ytejgdaekomdhlaa
