/- The reference of layer 12, walked: Unpack. -/
import Derived.Test.YtklbmlnghindjaaDoorShR1
import Derived.Test.YtklbmlnghindjaaDoorRcR
import Derived.Deep.WholeRow
namespace Go.Proofs.YtklbmlnghindjaaDoor
set_option maxRecDepth 100000
open Go.RowKit

theorem infoRec : (Tryd.prog.info? 32).map (fun i => (i.zero, i.size, i.bytes)) = some (some (.agg (ra 0 0 0)), 3, 24) := by kernel_rfl
theorem info_partsX {P : Program} {t : TypeId} {z : Option Value} {a b : Nat} (h : (P.info? t).map (fun i => (i.zero, i.size, i.bytes)) = some (z, a, b)) : ∃ i, P.info? t = some i ∧ i.zero = z ∧ i.size = a ∧ i.bytes = b := by
  cases hi : P.info? t with
  | none => rw [hi] at h; cases h
  | some i =>
    rw [hi] at h
    simp only [Option.map_some, Option.some.injEq, Prod.mk.injEq] at h
    exact ⟨i, rfl, h.1, h.2.1, h.2.2⟩
theorem cells_newX (w : World) (cs : Array Value) (t : TypeId) : ∀ (j : Nat) (u : Value), cs.toList[j]? = some u → (w.alloc (.cells cs t)).cell? ((⟨w.heap.size, 0, none⟩ : Addr).add j) = some u := by
  intro j u hu
  have h := (Blk.new w cs t).cell j
  have e : ((⟨w.heap.size, 0, none⟩ : Addr).add j) = ⟨w.heap.size, j, none⟩ := by cases j <;> simp [Addr.add]
  rw [e, h]
  simpa using hu
theorem own_belowX {wr w1 : World} {B n : Nat} {v : Value} {xs : List Value} {E : TypeId} {o : Obj} {z : Nat} (hown : wr.ownsRow B E z v n xs) (hB : B ≤ wr.heap.size) (hgrow : (wr.alloc o).grownBy w1 v.ownBlock) : Below B wr w1 := by
  refine Below.grown (row := v.ownBlock) ((Below.refl _ _).alloc hB _) hgrow (by simp; omega) ?_
  intro g hg
  exact (hown.lt g hg).1

theorem ownsRow_afterX {W W' : World} {B : Nat} {e : TypeId} {size : Nat} {v : Value} {n : Nat} {xs : List Value} (h : W.ownsRow B e size v n xs) (hb : Below W.heap.size W W') : W'.ownsRow B e size v n xs := by
  refine ⟨h.1, ?_⟩
  rcases h.2 with ⟨rfl, h0⟩ | ⟨g, cap, cur, rfl, hbg, hg, h1⟩
  · exact .inl ⟨rfl, h0⟩
  · exact .inr ⟨g, cap, cur, rfl, hbg, (hb.block g (Array.getElem?_eq_some_iff.1 hg).1).trans hg, h1⟩
/-- what Unpack answers -/
def UnpT (s : ByteArray) (w : World) (e : Ending) (w' : World) : Prop :=
  (PageOk s → ∃ v, e = .returned (.tuple #[v, .int .i64 0]) ∧ w'.ownsRow w.heap.size 32 3 v (recsT s).length (flatX (recsT s)))
  ∧ (¬ PageOk s → e = .returned (.tuple #[.slice none 0 0, .int .i64 (unpE s)])) ∧ Below w.heap.size w w'

theorem recs_step (s : ByteArray) (i : Nat) : (List.range (i + 1)).map (recAt s) = (List.range i).map (recAt s) ++ [recAt s i] := by rw [List.range_succ, List.map_append]; rfl

set_option maxHeartbeats 2000000 in
theorem rsh_unpack (s : ByteArray) (hs : s.size ≤ maxLen) (w : World) : Calls Tryd.prog 8 #[.string s] w (UnpT s w) := by
  have hsz2 : (s.size : Int) ≤ 9223372036854775807 := by unfold maxLen at hs; omega
  by_cases h : 16 ≤ (s.size : Int) ∧ (s.size : Int) ≤ 256
  · have hp := holdN_pos h
    have he : unpE s = 3 := if_pos h
    obtain ⟨m, hm⟩ : ∃ m, holdN s.size = m := ⟨_, rfl⟩
    have hh := rsh_hold s.size w
    rw [hm] at hp hh
    have HH := Lib.hid hh
    have HP := Lib.hid hp
    have HE := Lib.hid he
    have HM := Lib.hid hm
    have h0 : 0 < s.size := by omega
    have hlt0 : (0 : Int) < (s.size : Int) := by omega
    have hb := byteT_get9 s 0 h0
    obtain ⟨n, hn⟩ : ∃ n : Nat, s[0].toNat = n := ⟨_, rfl⟩
    rw [hn] at hb
    have HB := Lib.hid hb
    have HN := Lib.hid hn
    have hn256 : n < 256 := by rw [← hn]; exact s[0].toNat_lt
    have hwn : IntKind.i64.wrap (n : Int) = (n : Int) := by rw [IntKind.wrap_i64]; omega
    have HSZ := Lib.hid h
    have HMLE : Hid (m ≤ 28) := by show m ≤ 28; rw [← hm]; exact holdN_le _
    have hmz : ((m : Int) == 0) = false := by simp; omega
    clear hh hp he hm hb h
    by_cases hmany : 1 ≤ n ∧ n ≤ m
    · have hn1 : ¬ (n : Int) < 1 := by omega
      have hn2 : ¬ (m : Int) < (n : Int) := by omega
      have HMANY := Lib.hid hmany
      have HD3 : Hid (decide (m < n) = false) := decide_eq_false (by omega)
      clear hmany
      go_enter Tryd.func8, Tryd.ntmps8
      go_wp2_with fail
      refine HH.out.mono ?_
      rintro e w1 ⟨rfl, rfl⟩
      clear HH
      go_wp2_with fail
      go_loopw [6, 7] (fun ov iv wr => ∃ i : Nat, i ≤ n ∧ iv = .int .i64 i ∧ Hid (∀ j, j < i → OkR (secT s j)) ∧ Hid (wr.ownsRow w.heap.size 32 3 ov i (flatX ((List.range i).map (recAt s)))) ∧ Hid (Below w.heap.size w wr)) (fun _ iv _ => n - (intOf iv).toNat)
      case atStart => exact ⟨0, Nat.zero_le _, rfl, fun j hj => absurd hj (Nat.not_lt_zero _), ⟨rfl, Or.inl ⟨rfl, rfl⟩⟩, Below.refl _ _⟩
      case round =>
        obtain ⟨i, hi, rfl, HO, HOW, HBL⟩ := hrel
        by_cases hlt : i < n
        · have hltz : (i : Int) < (n : Int) := by omega
          have h1 : 10 + 9 * (i : Int) ≤ (s.size : Int) := by have := HP.out.2; have := HMANY.out; omega
          have hx1 : ((1 : Int) + 9 * (i : Int)).toNat = 1 + 9 * i := by omega
          have hx2 : ((10 : Int) + 9 * (i : Int)).toNat = 10 + 9 * i := by omega
          obtain ⟨t, ht⟩ : ∃ t, s.extract (1 + 9 * i) (10 + 9 * i) = t := ⟨_, rfl⟩
          have ht2 : secT s i = t := ht
          have HT := Lib.hid ht2
          have hts : t.size = 9 := by rw [← ht, ByteArray.size_extract]; omega
          have HTS := Lib.hid hts
          clear ht2 hts
          go_wp2_with fail
          refine (rrec_take t wr (by rw [HTS.out]; decide)).mono ?_
          rintro e w2 ⟨rfl, hb2⟩
          by_cases ho : OkR t
          · have hA : takeA t = ra (kR t) (aR t) (bR t) := if_pos ho
            have hE : takeE t = 0 := if_pos ho
            rw [hA, hE]
            have HX : Hid (recAt s i = ⟨kR t, aR t, bR t⟩) := by show recAt s i = _; unfold recAt; rw [HT.out]
            obtain ⟨kk, hkk⟩ : ∃ x, kR t = x := ⟨_, rfl⟩
            obtain ⟨aa, haa⟩ : ∃ x, aR t = x := ⟨_, rfl⟩
            obtain ⟨bb, hbb⟩ : ∃ x, bR t = x := ⟨_, rfl⟩
            rw [hkk, haa, hbb] at HX ⊢
            have HOK : Hid (∀ j, j < i + 1 → OkR (secT s j)) := fun j hj => by
              rcases Nat.lt_or_ge j i with h3 | h3
              · exact HO.out j h3
              · obtain rfl : j = i := by omega
                rw [HT.out]; exact ho
            have hnb : Below w2.heap.size w2 ((w2.alloc (.cells (ra 0 0 0) 32)).setRow w2.heap.size (ra kk aa bb)) := below_put (Nat.le_refl _) _ ((Below.refl _ _).alloc (Nat.le_refl _) _)
            have how2 := ownsRow_afterX HOW.out hb2
            have how3 := ownsRow_afterX how2 hnb
            have hB2 : w.heap.size ≤ w2.heap.size := Nat.le_trans HBL.out.size hb2.size
            have hbl3 : Below w.heap.size w ((w2.alloc (.cells (ra 0 0 0) 32)).setRow w2.heap.size (ra kk aa bb)) := (HBL.out.trans (hb2.mono HBL.out.size)).trans (hnb.mono hB2)
            obtain ⟨i0, hi0, hz0, hz1, hz2⟩ := info_partsX infoRec
            have hi28 : i ≤ 28 := by have := HMLE.out; have := HMANY.out; omega
            have hw3 : ((w2.alloc (.cells (ra 0 0 0) 32)).setRow w2.heap.size (ra kk aa bb)).heap.size = w2.heap.size + 1 := by rw [size_setRow, World.size_alloc]
            have hcn := cells_newX ((w2.alloc (.cells (ra 0 0 0) 32)).setRow w2.heap.size (ra kk aa bb)) #[.int .i64 kk, .int .i64 aa, .int .i64 bb] 32
            rw [hw3] at hcn
            have HW3 := Lib.hid hw3
            have HCN := Lib.hid hcn
            have HBL3 := Lib.hid hbl3
            clear hw3 hcn hnb how2 hbl3 hA hE hkk haa hbb ho ht HT HTS HO HOW HBL hb2
            go_wp2_with (first
              | (refine wpList_store_row rfl 32 (.tmp 8) (.tmp 41) rfl w2.heap.size (ra kk aa bb) rfl rfl 32 (ra 0 0 0) (Blk.new w2 (ra 0 0 0) 32) size_rec rfl (ra_one _ _ _) ?_)
              | (refine wpList_load_row rfl 32 (.tmp 8) rfl w2.heap.size rfl 32 #[.int .i64 kk, .int .i64 aa, .int .i64 bb] (0, 0) _ ((Blk.new w2 (ra 0 0 0) 32).put (ra kk aa bb)) Tryd.underlying32 rfl size_rec ?_)
              | (at_builtin; refine wpList_append_own _ rfl _ _ 24 rfl w.heap.size 32 i0 (.agg (ra 0 0 0)) 3 24 Tryd.underlying24 hi0 hz0 hz1 hz2 rfl (by decide) _ _ _ rfl (how3.alloc _) ⟨w2.heap.size + 1, 0, none⟩ 1 1 [.int .i64 kk, .int .i64 aa, .int .i64 bb] rfl rfl ?c1 ?c2 ?c3 ?c4 ?c5 ?_))
            case c1 => exact HCN.out
            case c2 => intro u hu; simp at hu; rcases hu with rfl | rfl | rfl <;> rfl
            case c3 => unfold maxLen; omega
            case c4 => omega
            case c5 => have := HW3.out; simp; omega
            intro v' w5 hown1 hgrow1 _
            have hbb := own_belowX how3 HBL3.out.size hgrow1
            have HN2 : Hid (w5.ownsRow w.heap.size 32 3 v' (i + 1) (flatX ((List.range (i + 1)).map (recAt s)))) := by
              rw [recs_step, flatX_app, HX.out]; exact hown1
            have HBN : Hid (Below w.heap.size w w5) := HBL3.out.trans hbb
            clear how3 hown1 hgrow1 hbb HW3 HCN HBL3 hi0 hz0 hz1 hz2
            go_wp2_with fail
            go_roundw
            case rel =>
              (repeat apply Exists.intro)
              refine ⟨⟨i + 1, by omega, by go_num, HOK, HN2, HBN⟩, ?_⟩
              rw [show decide (m < n) = false from HD3.out, Bool.or_false]
              rfl
            case measure => simp [intOf]; omega
          · have hA : takeA t = ra 0 0 0 := if_neg ho
            have hE : takeE t = 3 := if_neg ho
            rw [hA, hE]
            have hno : ¬ PageOk s := fun hp => ho (by rw [← HT.out]; exact hp.each i (by rw [← HB.out]; exact hltz))
            have hbl2 : Below w.heap.size w w2 := HBL.out.trans (hb2.mono HBL.out.size)
            have hbl3 : Below w.heap.size w ((w2.alloc (.cells (ra 0 0 0) 32)).setRow w2.heap.size (ra 0 0 0)) := below_put hbl2.size _ (hbl2.alloc hbl2.size _)
            have HBL3 := Lib.hid hbl3
            have HNO := Lib.hid hno
            clear hA hE hno hbl2 hbl3 ho ht HT HTS HO HOW HBL hb2
            go_wp2_with (refine wpList_store_row rfl 32 (.tmp 8) (.tmp 41) rfl w2.heap.size (ra 0 0 0) rfl rfl 32 (ra 0 0 0) (Blk.new w2 (ra 0 0 0) 32) size_rec rfl (ra_one _ _ _) ?_)
            go_ret2
            exact ⟨fun h => absurd h HNO.out, fun _ => by rw [HE.out]; rfl, HBL3.out⟩
        · obtain rfl : i = n := by omega
          have hltz : ¬ (i : Int) < (i : Int) := by omega
          have HLN : Hid (1 + 9 * (i : Int) ≤ (s.size : Int)) := by show 1 + 9 * (i : Int) ≤ (s.size : Int); have := HP.out.2; have := HMANY.out; omega
          go_wp2_with fail
          go_loopw [10] (fun jv wr2 => ∃ j : Nat, 1 + 9 * i ≤ j ∧ j ≤ s.size ∧ jv = .int .i64 j ∧ Hid (∀ t, 1 + 9 * i ≤ t → t < j → byteT s t = 0) ∧ wr2 = wr) (fun jv _ => s.size - (intOf jv).toNat)
          case atStart => exact ⟨1 + 9 * i, Nat.le_refl _, by have := HLN.out; omega, by go_num, fun t h1 h2 => by omega, rfl⟩
          case round =>
            obtain ⟨j, hj1, hj2, rfl, HJ, rfl⟩ := hrel
            by_cases hlt2 : j < s.size
            · have hltj : (j : Int) < (s.size : Int) := by omega
              have hbj := byteT_get9 s j hlt2
              obtain ⟨c, hc⟩ : ∃ c : Nat, s[j].toNat = c := ⟨_, rfl⟩
              rw [hc] at hbj
              have HBJ := Lib.hid hbj
              clear hbj
              by_cases hc0 : c = 0
              · subst hc0
                have HJ2 : Hid (∀ t, 1 + 9 * i ≤ t → t < j + 1 → byteT s t = 0) := fun t h1 h2 => by
                  rcases Nat.lt_or_ge t j with h3 | h3
                  · exact HJ.out t h1 h3
                  · obtain rfl : t = j := by omega
                    exact HBJ.out.symm
                go_wp2_with fail
                go_roundw
                case rel => exact ⟨j + 1, by omega, by omega, by go_num, HJ2, trivial⟩
                case measure => simp [intOf]; omega
              · have hcb : ((c : Int) == 0) = false := by simp; omega
                have hno : ¬ PageOk s := fun hp => by
                  have h3 := hp.rest j (by rw [← HB.out]; omega) hlt2
                  rw [← HBJ.out] at h3
                  omega
                have HNO := Lib.hid hno
                clear hno
                go_wp2_with fail
                go_ret2
                exact ⟨fun h => absurd h HNO.out, fun _ => by rw [HE.out]; rfl, HBL.out⟩
            · obtain rfl : j = s.size := by omega
              have hltj : ¬ (s.size : Int) < (s.size : Int) := by omega
              have hnb : (byteT s 0).toNat = i := by have := HB.out; omega
              have hok : PageOk s := ⟨HSZ.out, ⟨by rw [← HB.out]; have := HMANY.out; omega, by rw [← HB.out, HM.out]; have := HMANY.out; omega⟩, fun k hk => HO.out k (by rw [← HB.out] at hk; omega), fun k hk1 hk2 => HJ.out k (by rw [← HB.out] at hk1; omega) hk2⟩
              have HOK := Lib.hid hok
              have hrec : recsT s = (List.range i).map (recAt s) := by unfold recsT; rw [hnb]
              have hlen : (recsT s).length = i := by rw [recsT_len, hnb]
              have HREC := Lib.hid hrec
              have HLEN := Lib.hid hlen
              clear hok hrec hlen hnb
              go_wp2_with fail
              go_ret2
              exact ⟨fun _ => ⟨_, rfl, by rw [HLEN.out, HREC.out]; exact HOW.out⟩, fun h => absurd HOK.out h, HBL.out⟩
    · have hno : ¬ PageOk s := fun hp => by
        have h3 := hp.many
        rw [← HB.out, HM.out] at h3
        omega
      have HNO := Lib.hid hno
      have hc : (n : Int) < 1 ∨ (¬ (n : Int) < 1 ∧ (m : Int) < (n : Int)) := by omega
      clear hno hmany
      rcases hc with hc | ⟨hc, hc2⟩
      all_goals
        go_enter Tryd.func8, Tryd.ntmps8
        go_wp2_with fail
        refine HH.out.mono ?_
        rintro e w1 ⟨rfl, rfl⟩
        go_wp2_with fail
        go_ret2
        exact ⟨fun h => absurd h HNO.out, fun _ => by rw [HE.out]; rfl, Below.refl _ _⟩
  · have hz := holdN_out h
    have he : unpE s = 2 := if_neg h
    have hh := rsh_hold s.size w
    rw [hz] at hh
    have HH := Lib.hid hh
    have HE := Lib.hid he
    have HNO : Hid (¬ PageOk s) := fun hp => h hp.size
    clear hh he hz h
    go_enter Tryd.func8, Tryd.ntmps8
    go_wp2_with fail
    refine HH.out.mono ?_
    rintro e w1 ⟨rfl, rfl⟩
    go_wp2_with fail
    go_ret2
    exact ⟨fun h => absurd h HNO.out, fun _ => by rw [HE.out]; rfl, Below.refl _ _⟩

end Go.Proofs.YtklbmlnghindjaaDoor
