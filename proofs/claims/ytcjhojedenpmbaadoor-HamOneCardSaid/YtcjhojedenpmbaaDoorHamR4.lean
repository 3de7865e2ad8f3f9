/- The reference of layer 3, walked: Encode, Decode. -/
import Derived.Test.YtcjhojedenpmbaaDoorHamR3
namespace Go.Proofs.YtcjhojedenpmbaaDoor
open Go.RowKit

theorem conv1 (c : Int) (ty : TypeId) (W : World) :
    Sem.run Tryd.prog (convert 37 9 (.slice (some ⟨W.heap.size, 0, none⟩) 1 1)) (W.alloc (.cells #[.int .u8 c] ty))
      = .ok (.string (strOfNums [c])) (W.alloc (.cells #[.int .u8 c] ty)) := by
  refine run_convert_bytes_arg (P := Tryd.prog) _ 37 5 Tryd.underlying37 Tryd.underlying5 W.heap.size 0 1 1 [c] rfl ?_ 9 Tryd.underlying9
  intro i hi
  rw [Nat.zero_add, World.cell?_alloc_new]
  rcases i with _ | i
  all_goals first | (simp at hi; done) | rfl
theorem size_one (c : Int) : (strOfNums [c]).size = 1 := rfl
/-- with no check yet -/
theorem nul_cat (s : ByteArray) (h : s.size = 8) : ∃ z, s ++ strOfNums [0] = z ∧ z.size = 9 ∧ numN (bs z) = numN (bs s) := by
  refine ⟨_, rfl, by rw [ByteArray.size_append, h, size_one], ?_⟩
  have e : bs (s ++ strOfNums [0]) = bs s ++ [0] := by
    unfold bs; rw [ByteArray.data_append, Array.toList_append]; rfl
  rw [e, numN_append]
  show _ + _ * ((0 : UInt8).toNat + 256 * 0) = _
  simp

def EncPost (s : ByteArray) (w : World) (e : Ending) (w' : World) : Prop := e = .returned (.tuple #[.string (encS s), .int .i64 0]) ∧ Below w.heap.size w w'

theorem renc_no (s : ByteArray) (w : World) (h : s.size ≠ 8) (hm : s.size ≤ maxLen) :
    Calls Tryd.prog 11 #[.string s] w fun e w' => e = .returned (.tuple #[.string ByteArray.empty, .int .i64 4]) ∧ w = w' := by
  have hm2 : (s.size : Int) ≤ 9223372036854775807 := by unfold maxLen at hm; omega
  have h2 : (s.size : Int) ≠ 8 := by omega
  clear hm
  go_enter Tryd.func11, Tryd.ntmps11
  go_wp2
  go_ret2
  exact ⟨rfl, rfl⟩
theorem rel_len {w wr w1 : World} {B n : Nat} {v' : Value} {x : Int} {xs : List Nat} (y : Nat) (ho : w1.ownsRow B 3 1 v' (n + 1) (xs.map V ++ [.int .i64 x])) (hv : x = (y : Nat)) (hb : Below B w wr) (hg : Below B wr w1) :
    w1.ownsRow B 3 1 v' (n + 1) ((xs ++ [y]).map V) ∧ Below B w w1 := by
  subst hv
  exact ⟨by simpa [V] using ho, hb.trans hg⟩
theorem own_len {w : World} {B n : Nat} {v : Value} {xs : List Nat} (h : w.ownsRow B 3 1 v n (xs.map V)) : xs.length = n ∧ ∃ a ca, v = .slice a n ca := by
  have hl : xs.length = n := by have := h.1; simpa using this
  obtain ⟨a, ca, h1, _⟩ := owned_ints h hl.symm
  exact ⟨hl, a, ca, by rw [← hl]; exact h1⟩

set_option maxHeartbeats 4000000 in
set_option maxRecDepth 100000 in
theorem renc_yes (s : ByteArray) (w : World) (h : s.size = 8) : Calls Tryd.prog 11 #[.string s] w (EncPost s w) := by
  obtain ⟨i0, hi, hz0, hz1, hz2⟩ := info_parts Tryd.infoInt
  have HE := Lib.hid (enc_cat s)
  obtain ⟨z, hz, hz9, hzn⟩ := nul_cat s h
  have HZN := Lib.hid hzn
  have hcv := fun (c : Int) => conv1 c 5
  have hM := num_lt s h
  obtain ⟨M, hMe⟩ : ∃ M, numN (bs s) = M := ⟨_, rfl⟩
  have HMe := Lib.hid hMe
  rw [hMe] at hM
  clear hMe hzn
  go_enter Tryd.func11, Tryd.ntmps11
  go_wp2_with fail
  refine (rbits_any z _ (by omega)).mono ?_
  rintro e w1 ⟨v, rfl, hown, hb1⟩
  rw [HZN.out, HMe.out, hz9, show 8 * 9 = 72 from rfl, cnt_64 hM, ones_check hM] at hown
  obtain ⟨c0, hc0⟩ : ∃ c, cnt M 64 = c := ⟨_, rfl⟩
  have HC0 := Lib.hid hc0
  have hc64 : c0 ≤ 64 := by rw [← hc0]; exact cnt_le M 64
  rw [hc0] at hown
  clear hc0
  have hB1 : Below w.heap.size w w1 := ((Below.refl _ _).alloc (Nat.le_refl _) _).trans (hb1.mono (by simp))
  have HB1 := Lib.hid hB1
  have HO := Lib.hid hown
  clear hb1 hB1 hown
  go_wp2_with fail
  refine (rleft_any v (onesL M 64) w1 (owned_ints HO.out (by rw [onesL_length, HC0.out])) (fun i hi => by have := onesL_lt M 64 i hi; omega) (by rw [onesL_length, HC0.out]; omega)).mono ?_
  rintro e w2 ⟨rfl, hb2⟩
  rw [leftL_ones]
  obtain ⟨p, hp⟩ : ∃ p, left M 64 = p := ⟨_, rfl⟩
  have HP := Lib.hid hp
  have hp7 : p < 128 := by rw [← hp]; exact left_lt M 64
  rw [hp]
  have HB2 := Lib.hid hb2
  clear hp hb2
  have hz1' := HB1.out.size
  have hz2' := HB2.out.size
  have HEnc : ∀ q, (c0 + cnt p 7) % 2 = q → encN (numN (bs s)) = p + 128 * q := by
    intro q hq
    rw [HMe.out]; unfold encN
    rw [HP.out, HC0.out, hq]
  have HEnc' := Lib.hid HEnc
  have HBit := Lib.hid (fun k (hk : k < 8) => bt_bit p k (by omega) hk)
  clear HEnc
  have hB2 : Below w.heap.size w w2 := HB1.out.trans (HB2.out.mono hz1')
  have HBB := Lib.hid hB2
  clear hB2
  rcases owned_cells HO.out (by rw [onesL_length, HC0.out]) with ⟨rfl, h0⟩ | ⟨g, cap, rfl, hgB, hg, hcells⟩
  · have hc00 : c0 = 0 := by rw [← HC0.out, ← onesL_length, h0]; rfl
    have HL0 : Hid (w2.ownsRow w.heap.size 3 1 (.slice none 0 0) c0 ((onesL M 64).map V)) := ⟨by rw [h0, hc00]; rfl, Or.inl ⟨rfl, hc00⟩⟩
    have HBL := HBB
    clear h0 hc00
    go_wp2_with fail
    go_loopw [6, 7] (fun l i wr => ∃ k : Nat, k ≤ 7 ∧ i = .int .i64 k ∧ ∃ xs : List Nat, wr.ownsRow w.heap.size 3 1 l (c0 + cnt p k) (xs.map V) ∧ Below w.heap.size w wr) (fun _ i _ => 7 - (intOf i).toNat)
    case atStart => exact ⟨0, by omega, rfl, onesL M 64, HL0.out, HBL.out⟩
    case round =>
      obtain ⟨k, hk, rfl, xs, hown, hb⟩ := hrel
      obtain ⟨n, hn⟩ : ∃ n, c0 + cnt p k = n := ⟨_, rfl⟩
      have hn71 : n ≤ 71 := by have := cnt_le p k; omega
      have HN := Lib.hid hn
      rw [hn] at hown
      clear hn
      by_cases hlt : k < 7
      · have hbt := HBit.out k (by omega)
        cases hpk : p.testBit k with
        | true =>
          rw [hpk] at hbt
          have HBt := Lib.hid (show bt (p : Int) k = 1 from hbt)
          have HN2 : Hid (c0 + cnt p (k + 1) = n + 1) := by have := HN.out; simp only [cnt, hpk, if_true]; unfold Hid; omega
          clear hpk hbt
          go_wp2_with (first | (go_at_call 20; refine (bit_one _ k _ (by omega) (by omega) (by omega) HBt.out).mono ?_; rintro e w' ⟨rfl, rfl⟩) | (at_builtin; refine wpList_append_own _ rfl _ _ 40 rfl w.heap.size 3 i0 (.int .i64 0) 1 8 Tryd.underlying40 hi hz0 hz1 hz2 rfl (by decide) _ _ _ rfl (hown.alloc _) ⟨wr.heap.size, 0, none⟩ 1 1 [.int .i64 (64 + (k : Int))] rfl rfl ?d1 ?d2 ?d3 ?d4 ?d5 ?_))
          case d1 => exact cell_one_new _ _ _
          case d2 => intro u hu; simp at hu; subst hu; rfl
          case d3 => unfold maxLen; omega
          case d4 => omega
          case d5 => have := hb.size; simp; omega
          intro v' w4 hown4 hgrow4 hx4; clear hx4
          have HR := Lib.hid (rel_len (64 + k) hown4 (by omega) hb (own_below hown hb.size hgrow4))
          clear hown4 hgrow4 hown
          go_wp2
          go_roundw
          case rel => exact ⟨k + 1, by omega, by go_num, _, by rw [HN2.out]; exact HR.out.1, HR.out.2⟩
          case measure => simp [intOf]; omega
        | false =>
          rw [hpk] at hbt
          have HBt := Lib.hid (show bt (p : Int) k = 0 from hbt)
          have HN2 : Hid (c0 + cnt p (k + 1) = n) := by have := HN.out; simp only [cnt, hpk]; unfold Hid; simp; omega
          have HO4 := Lib.hid hown
          clear hpk hbt hown
          go_wp2_with (go_at_call 20; refine (bit_nil _ k _ (by omega) (by omega) (by omega) HBt.out).mono ?_; rintro e w' ⟨rfl, rfl⟩)
          go_roundw
          case rel => exact ⟨k + 1, by omega, by go_num, xs, by rw [HN2.out]; exact HO4.out, hb⟩
          case measure => simp [intOf]; omega
      · obtain rfl : k = 7 := by omega
        obtain ⟨_, a, ca, rfl⟩ := own_len hown
        clear hown
        by_cases hodd : n % 2 = 1
        · have hc := HEnc'.out 1 (by rw [HN.out]; exact hodd)
          have hcat := HE.out ((p : Int) + 128) (by rw [hc]; omega)
          have hodd2 : (n : Int) % 2 = 1 := by omega
          clear hc
          go_wp2
          go_ret2
          exact ⟨rfl, hb.alloc hb.size _⟩
        · have hc := HEnc'.out 0 (by rw [HN.out]; omega)
          have hcat := HE.out (p : Int) (by rw [hc]; omega)
          have hodd2 : (n : Int) % 2 = 0 := by omega
          clear hc
          go_wp2
          go_ret2
          exact ⟨rfl, hb.alloc hb.size _⟩
  · have hnews : ∀ j u, ((onesL M 64).map V)[j]? = some u → w2.cell? ((⟨g, 0, none⟩ : Addr).add j) = some u := by
      intro j u hu
      have hj : j < (onesL M 64).length := by
        rcases Nat.lt_or_ge j (onesL M 64).length with h | h
        · exact h
        · rw [List.getElem?_eq_none (by simpa using h)] at hu; cases hu
      have e : (⟨g, 0, none⟩ : Addr).add j = ⟨g, j, none⟩ := by
        unfold Addr.add
        by_cases hj0 : j = 0
        · subst hj0; rfl
        · rw [if_neg hj0, Nat.zero_add]
      rw [e, HB2.out.cell (p := ⟨g, j, none⟩) hg, hcells j hj]
      simp [V, List.getD, hj] at hu ⊢
      exact hu
    have HNews := Lib.hid hnews
    have hone : ∀ u ∈ (onesL M 64).map V, u.oneCell' = true := by
      intro u hu
      obtain ⟨x, _, rfl⟩ := List.mem_map.1 hu; rfl
    have HOne := Lib.hid hone
    have HLen : Hid (((onesL M 64).map V).length = c0 * 1) := by rw [List.length_map, onesL_length, HC0.out, Nat.mul_one]; rfl
    clear hnews hone hcells hgB hg
    go_wp2_with (at_builtin; refine wpList_append_own _ rfl _ _ 40 rfl w.heap.size 3 i0 (.int .i64 0) 1 8 Tryd.underlying40 hi hz0 hz1 hz2 rfl (by decide) (.slice none 0 0) 0 [] rfl ⟨rfl, Or.inl ⟨rfl, rfl⟩⟩ ⟨g, 0, none⟩ c0 cap ((onesL M 64).map V) rfl ?c0 ?c1 ?c2 ?c3 ?c4 ?c5 ?_)
    case c0 => exact HLen.out
    case c1 => exact HNews.out
    case c2 => exact HOne.out
    case c3 => unfold maxLen; omega
    case c4 => omega
    case c5 => exact Nat.le_trans hz1' hz2'
    intro l0 w3 hown3 hgrow3 hx3; clear hx3
    have HL0 : Hid (w3.ownsRow w.heap.size 3 1 l0 c0 ((onesL M 64).map V)) := by
      first | exact hown3 | (have h := hown3; rw [Nat.zero_add, List.nil_append] at h; exact h) | (have h := hown3; rw [List.nil_append] at h; exact h)
    have HBL : Hid (Below w.heap.size w w3) := HBB.out.trans (Below.grown (row := none) (Below.refl _ _) hgrow3 (Nat.le_trans hz1' hz2') (fun k hk => by cases hk))
    clear hown3 hgrow3 HNews HOne HLen
    go_wp2_with fail
    go_loopw [6, 7] (fun l i wr => ∃ k : Nat, k ≤ 7 ∧ i = .int .i64 k ∧ ∃ xs : List Nat, wr.ownsRow w.heap.size 3 1 l (c0 + cnt p k) (xs.map V) ∧ Below w.heap.size w wr) (fun _ i _ => 7 - (intOf i).toNat)
    case atStart => exact ⟨0, by omega, rfl, onesL M 64, HL0.out, HBL.out⟩
    case round =>
      obtain ⟨k, hk, rfl, xs, hown, hb⟩ := hrel
      obtain ⟨n, hn⟩ : ∃ n, c0 + cnt p k = n := ⟨_, rfl⟩
      have hn71 : n ≤ 71 := by have := cnt_le p k; omega
      have HN := Lib.hid hn
      rw [hn] at hown
      clear hn
      by_cases hlt : k < 7
      · have hbt := HBit.out k (by omega)
        cases hpk : p.testBit k with
        | true =>
          rw [hpk] at hbt
          have HBt := Lib.hid (show bt (p : Int) k = 1 from hbt)
          have HN2 : Hid (c0 + cnt p (k + 1) = n + 1) := by have := HN.out; simp only [cnt, hpk, if_true]; unfold Hid; omega
          clear hpk hbt
          go_wp2_with (first | (go_at_call 20; refine (bit_one _ k _ (by omega) (by omega) (by omega) HBt.out).mono ?_; rintro e w' ⟨rfl, rfl⟩) | (at_builtin; refine wpList_append_own _ rfl _ _ 40 rfl w.heap.size 3 i0 (.int .i64 0) 1 8 Tryd.underlying40 hi hz0 hz1 hz2 rfl (by decide) _ _ _ rfl (hown.alloc _) ⟨wr.heap.size, 0, none⟩ 1 1 [.int .i64 (64 + (k : Int))] rfl rfl ?d1 ?d2 ?d3 ?d4 ?d5 ?_))
          case d1 => exact cell_one_new _ _ _
          case d2 => intro u hu; simp at hu; subst hu; rfl
          case d3 => unfold maxLen; omega
          case d4 => omega
          case d5 => have := hb.size; simp; omega
          intro v' w4 hown4 hgrow4 hx4; clear hx4
          have HR := Lib.hid (rel_len (64 + k) hown4 (by omega) hb (own_below hown hb.size hgrow4))
          clear hown4 hgrow4 hown
          go_wp2
          go_roundw
          case rel => exact ⟨k + 1, by omega, by go_num, _, by rw [HN2.out]; exact HR.out.1, HR.out.2⟩
          case measure => simp [intOf]; omega
        | false =>
          rw [hpk] at hbt
          have HBt := Lib.hid (show bt (p : Int) k = 0 from hbt)
          have HN2 : Hid (c0 + cnt p (k + 1) = n) := by have := HN.out; simp only [cnt, hpk]; unfold Hid; simp; omega
          have HO4 := Lib.hid hown
          clear hpk hbt hown
          go_wp2_with (go_at_call 20; refine (bit_nil _ k _ (by omega) (by omega) (by omega) HBt.out).mono ?_; rintro e w' ⟨rfl, rfl⟩)
          go_roundw
          case rel => exact ⟨k + 1, by omega, by go_num, xs, by rw [HN2.out]; exact HO4.out, hb⟩
          case measure => simp [intOf]; omega
      · obtain rfl : k = 7 := by omega
        obtain ⟨_, a, ca, rfl⟩ := own_len hown
        clear hown
        by_cases hodd : n % 2 = 1
        · have hc := HEnc'.out 1 (by rw [HN.out]; exact hodd)
          have hcat := HE.out ((p : Int) + 128) (by rw [hc]; omega)
          have hodd2 : (n : Int) % 2 = 1 := by omega
          clear hc
          go_wp2
          go_ret2
          exact ⟨rfl, hb.alloc hb.size _⟩
        · have hc := HEnc'.out 0 (by rw [HN.out]; omega)
          have hcat := HE.out (p : Int) (by rw [hc]; omega)
          have hodd2 : (n : Int) % 2 = 0 := by omega
          clear hc
          go_wp2
          go_ret2
          exact ⟨rfl, hb.alloc hb.size _⟩

end Go.Proofs.YtcjhojedenpmbaaDoor
