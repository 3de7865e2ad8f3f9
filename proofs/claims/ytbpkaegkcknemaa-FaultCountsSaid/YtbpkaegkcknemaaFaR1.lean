/- The reference of fault, walked: Without. -/
import Derived.Test.YtbpkaegkcknemaaFaC6
namespace Go.Proofs.Ytbpkaegkcknemaa
set_option maxRecDepth 100000
open Go.RowKit Go.Shelf Go.Proofs

theorem own_fs {W : World} {B : Nat} {v : Value} {l : List Fa} (h : W.ownsRow B 26 4 v l.length (flatF l)) : ∃ oa cap, v = .slice oa l.length cap ∧ FsAt W oa l := by
  rcases h.2 with ⟨rfl, h0⟩ | ⟨g, cap, cur, rfl, _, hg, _, _, _, ht⟩
  · have hl : l = [] := List.eq_nil_of_length_eq_zero h0
    subst hl
    exact ⟨none, 0, rfl, FsAt.nil _ _⟩
  · have hb : Blk W g cur 26 := hg
    exact ⟨_, cap, rfl, (FRow.of_blk hb ht).fs⟩
theorem others_take (k : Int) (l : List Fa) (i : Nat) (hi : i < l.length) : others k (l.take (i + 1)) = if (l[i].2.1 == k) = true then others k (l.take i) else others k (l.take i) ++ [l[i]] := by
  unfold others
  rw [List.take_add_one, List.getElem?_eq_getElem hi, Option.toList_some, List.filter_append]
  by_cases h : (l[i].2.1 == k) = true
  · rw [if_pos h, List.filter_cons_of_neg (by simp [h])]; simp
  · rw [if_neg h, List.filter_cons_of_pos (by simpa using h)]; simp
theorem cells_newF (w : World) (l : List Value) (t : TypeId) : ∀ j u, l[j]? = some u → (w.alloc (.cells l.toArray t)).cell? ((⟨w.heap.size, 0, none⟩ : Addr).add j) = some u := by
  intro j u h
  cases j with
  | zero => simp [Addr.add, h]
  | succ j => simp [Addr.add, h]

set_option maxHeartbeats 4000000 in
theorem rfa_without (oa : Option Addr) (cap : Nat) (l : List Fa) (hl : l.length ≤ 1000000) (k : Int) (w : World) (ha : FsAt w oa l) :
    Calls Try.prog 18 #[.slice oa l.length cap, .int .i64 k] w (GivesF w (others k l)) := by
  by_cases h0 : l = []
  · subst h0
    show Calls Try.prog _ #[.slice oa 0 cap, .int .i64 k] w (GivesF w [])
    clear ha
    go_enter Try.func18, Try.ntmps18
    go_wp2
    refine wp_loop_rounds 1 ?_
    rw [rounds_succ]
    go_wp2
    go_ret
    exact ⟨none, 0, rfl, FsAt.nil _ _, Below.refl _ _⟩
  · obtain ⟨i0, hi0, hz0, hz1, hz2⟩ := info_partsF infoFault
    obtain ⟨B, off, rfl, hB, hc⟩ := ha h0
    have HC : Hid (∀ i (hi : i < l.length), w.rangeAt B (off + i * 4) (encF l[i])) := hc
    obtain ⟨n, hn⟩ : ∃ n, l.length = n := ⟨_, rfl⟩
    have HN := Lib.hid hn
    rw [hn] at hl ⊢
    clear hn hc ha h0
    go_enter Try.func18, Try.ntmps18
    go_wp2
    go_loopg [5, 6] n (fun kx s5 s6 wr => ∃ (i : Nat), s6 = .int .i64 i ∧ i ≤ n ∧ n - i ≤ kx ∧ Hid (Below w.heap.size w wr) ∧ Hid (wr.ownsRow w.heap.size 26 4 s5 (others k (l.take i)).length (flatF (others k (l.take i)))))
    case atStart => exact ⟨0, rfl, Nat.zero_le _, Nat.le_refl _, Below.refl _ _, World.ownsRow_nil _ _ _ _⟩
    case round =>
      obtain ⟨i, rfl, hi, hkx, HB, HO⟩ := hrel
      by_cases hlt : i < n
      · have hltz : (i : Int) < (n : Int) := by omega
        have hil : i < l.length := by have := HN.out; omega
        have hr : wr.rangeAt B (off + i * 4) (encF l[i]) := fun t u hu => by
          rw [World.cell?_of_block (w := w) (HB.out.block B hB)]; exact HC.out i hil t u hu
        have htk := others_take k l i hil
        have hol : (others k (l.take i)).length ≤ 1000000 := by
          have := others_le k (l.take i)
          rw [List.length_take] at this
          omega
        generalize l[i] = x at hr htk
        obtain ⟨x1, x2, x3, x4⟩ := x
        have c1 : wr.cell? ⟨B, off + i * 4 + 1, none⟩ = some (.int .i64 x2) := hr 1 _ rfl
        have HR := Lib.hid hr
        obtain ⟨oth, hoth⟩ : ∃ o, others k (l.take i) = o := ⟨_, rfl⟩
        rw [hoth] at htk HO hol
        have HTK := Lib.hid htk
        clear hr htk hil hoth
        by_cases hx : x2 = k
        · have hxb : (x2 != k) = false := by simp [hx]
          have HE : Hid (wr.ownsRow w.heap.size 26 4 u5 (others k (l.take (i + 1))).length (flatF (others k (l.take (i + 1))))) := by
            show World.ownsRow _ _ _ _ _ _ _
            rw [HTK.out, if_pos (by simpa using hx)]; exact HO.out
          clear hx
          go_wp2_with fail
          go_roundg (n - (i + 1))
          case measure => omega
          case rel => exact ⟨i + 1, by go_num, by omega, Nat.le_refl _, HB, HE⟩
        · have hxb : (x2 != k) = true := by simp [hx]
          have HTE : Hid (others k (l.take (i + 1)) = oth ++ [(x1, x2, x3, x4)]) := by
            show _ = _
            rw [HTK.out, if_neg (by simpa using hx)]
          clear hx
          go_wp2_with (first
            | (refine wpList_load_mid rfl 26 (.tmp 23) rfl B (off + i * 4) rfl [.int .i64 x1, .int .i64 x2, .int .i64 x3, .int .i64 x4] _ HR.out Try.underlying26 rfl size_fault ?_)
            | (at_builtin; refine wpList_append_own _ rfl _ _ 22 rfl w.heap.size 26 i0 (.agg (encF f0).toArray) 4 32 Try.underlying22 hi0 hz0 hz1 hz2 rfl (by decide) _ _ _ rfl (HO.out.alloc _) ⟨wr.heap.size, 0, none⟩ 1 1 [.int .i64 x1, .int .i64 x2, .int .i64 x3, .int .i64 x4] rfl rfl ?c1 ?c2 ?c3 ?c4 ?c5 ?_))
          case c2 => exact ⟨rfl, rfl, rfl, rfl⟩
          case c3 => unfold maxLen; omega
          case c4 => omega
          case c5 => have := HB.out.size; simp; omega
          intro v' w3 hown1 hgrow _
          have HB3 : Hid (Below w.heap.size w w3) := by
            refine (HB.out.alloc HB.out.size _).grown hgrow (by have := HB.out.size; simp; omega) ?_
            intro g hg
            exact (HO.out.lt g hg).1
          have HE : Hid (w3.ownsRow w.heap.size 26 4 v' (others k (l.take (i + 1))).length (flatF (others k (l.take (i + 1))))) := by
            show World.ownsRow _ _ _ _ _ _ _
            rw [HTE.out, flatF_app, List.length_append]; exact hown1
          clear hown1 hgrow HO HB
          go_wp2_with fail
          go_roundg (n - (i + 1))
          case measure => omega
          case rel => exact ⟨i + 1, by go_num, by omega, Nat.le_refl _, HB3, HE⟩
      · obtain rfl : i = n := by omega
        have hltz : ¬ (i : Int) < (i : Int) := by omega
        have ho := HO.out
        rw [show i = l.length from HN.out.symm, List.take_length] at ho
        obtain ⟨oa2, cap2, hv, hf⟩ := own_fs ho
        have HF := Lib.hid hf
        have HV := Lib.hid hv
        clear ho hf hv
        go_wp2
        go_ret
        exact ⟨oa2, cap2, by rw [← HV.out]; rfl, HF.out, HB.out⟩

end Go.Proofs.Ytbpkaegkcknemaa
