/- Texts of one claim, merged: HamR3, HamR4, HamR5, FrR3, FrF4. -/
import Derived.Test.YtlacmfacigfioaaDoorM3
import Derived.OwnWalk
import Derived.Test.YtlacmfacigfioaaDoorM2

/- The reference of layer 3, walked: Bits, Encode, Decode. -/
namespace Go.Proofs.YtlacmfacigfioaaDoor
set_option maxRecDepth 100000
open Go.RowKit

theorem bt_bit (c r : Nat) (hc : c < 256) (hr : r < 8) : bt (c : Int) r = if c.testBit r then 1 else 0 := by
  have h : ∀ c, c < 256 → ∀ r, r < 8 → bt ((c : Nat) : Int) r = if c.testBit r then 1 else 0 := by decide +kernel
  exact h c hc r hr
def Ones3 (M n B : Nat) (w : World) (e : Ending) (w' : World) : Prop := ∃ v, e = .returned v ∧ w'.ownsRow B 3 1 v (cnt M n) ((onesL M n).map V) ∧ Below B w w'
theorem rel_ones {w wr w1 : World} {B M k m : Nat} {v' : Value} {x : Int} (hp : M.testBit k = true) (hm : m = cnt M k) (ho : w1.ownsRow B 3 1 v' (m + 1) ((onesL M k).map V ++ [.int .i64 x])) (hv : x = (k : Nat)) (hb : Below B w wr) (hg : Below B wr w1) :
    w1.ownsRow B 3 1 v' (cnt M (k + 1)) ((onesL M (k + 1)).map V) ∧ Below B w w1 := by
  subst hv; subst hm
  simp only [cnt, onesL, hp, if_true]
  exact ⟨by simpa [V] using ho, hb.trans hg⟩

set_option maxRecDepth 100000 in
theorem rbits_any (s : ByteArray) (w : World) (hm : s.size ≤ 101) :
    Calls Tryd.prog 58 #[.string s] w (Ones3 (numN (bs s)) (8 * s.size) w.heap.size w) := by
  obtain ⟨i0, hi, hz0, hz1, hz2⟩ := info_parts Tryd.infoInt
  obtain ⟨M, hM⟩ : ∃ M, numN (bs s) = M := ⟨_, rfl⟩
  have HM := Lib.hid hM
  rw [hM]; clear hM
  go_enter Tryd.func58, Tryd.ntmps58
  go_wp2
  go_loopw [3, 4] (fun b i wr => ∃ k : Nat, k ≤ 8 * s.size ∧ i = .int .i64 k ∧ wr.ownsRow w.heap.size 3 1 b (cnt M k) ((onesL M k).map V) ∧ Below w.heap.size w wr) (fun _ i _ => 8 * s.size - (intOf i).toNat)
  case atStart => exact ⟨0, by omega, rfl, ⟨rfl, Or.inl ⟨rfl, rfl⟩⟩, Below.refl _ _⟩
  case round =>
    obtain ⟨k, hk, rfl, hown, hb⟩ := hrel
    obtain ⟨wo, rfl⟩ : ∃ wo : World, wo = wr := ⟨_, rfl⟩
    obtain ⟨m, hm2⟩ : ∃ m, cnt M k = m := ⟨_, rfl⟩
    have HC := Lib.hid hm2
    have hmk : m ≤ k := by rw [← hm2]; exact cnt_le M k
    rw [hm2] at hown
    clear hm2
    by_cases hlt : k < 8 * s.size
    · obtain ⟨q, hq⟩ : ∃ q, k / 8 = q := ⟨_, rfl⟩
      obtain ⟨r, hr⟩ : ∃ r, k % 8 = r := ⟨_, rfl⟩
      have hq2 : (k : Int) / 8 = q := by omega
      have hr2 : (k : Int) % 8 = r := by omega
      have hqs : q < s.size := by omega
      have hr8 : r < 8 := by omega
      have hkq : 8 * q + r = k := by omega
      obtain ⟨c, hc⟩ : ∃ c : Nat, s[q].toNat = c := ⟨_, rfl⟩
      have hc2 : c < 256 := by rw [← hc]; exact s[q].toNat_lt
      have hbit := str_bit s q r hqs hr8
      rw [HM.out, hc, hkq] at hbit
      have hbt := bt_bit c r hc2 hr8
      rw [← hbit] at hbt
      have HQ := Lib.hid (And.intro hq2 hr2)
      clear hkq hq hr
      cases hp : M.testBit k with
      | true =>
        have HP := Lib.hid hp
        rw [hp] at hbt
        have HB := Lib.hid (show bt (c : Int) r = 1 from hbt)
        clear hp hbt hbit
        go_wp2_with (first | (go_at_call 60; refine (bit_one _ r _ (by omega) (by omega) (by omega) HB.out).mono ?_; rintro e w' ⟨rfl, rfl⟩) | (at_builtin; refine wpList_append_own _ rfl _ _ 36 rfl w.heap.size 3 i0 (.int .i64 0) 1 8 Tryd.underlying36 hi hz0 hz1 hz2 rfl (by decide) _ _ _ rfl (hown.alloc _) ⟨wo.heap.size, 0, none⟩ 1 1 [.int .i64 (k : Int)] rfl rfl ?c1 ?c2 ?c3 ?c4 ?c5 ?_))
        case c1 => exact cell_one_new _ _ _
        case c2 => intro u hu; simp at hu; subst hu; rfl
        case c3 => unfold maxLen; omega
        case c4 => omega
        case c5 => have := hb.size; simp; omega
        intro v' w1 hown1 hgrow _
        have HR := Lib.hid (rel_ones HP.out HC.out.symm hown1 rfl hb (own_below hown hb.size hgrow))
        clear hown1 hgrow hown
        go_wp2
        go_roundw
        case rel => exact ⟨k + 1, by omega, by go_num, HR.out.1, HR.out.2⟩
        case measure => simp [intOf]; omega
      | false =>
        have HP := Lib.hid hp
        have HO := Lib.hid hown
        rw [hp] at hbt
        have HB := Lib.hid (show bt (c : Int) r = 0 from hbt)
        clear hp hbt hbit hown
        go_wp2_with (go_at_call 60; refine (bit_nil _ r _ (by omega) (by omega) (by omega) HB.out).mono ?_; rintro e w' ⟨rfl, rfl⟩)
        go_roundw
        case rel => exact ⟨k + 1, by omega, by go_num, by simp only [cnt, onesL, HP.out]; simpa [HC.out] using HO.out, hb⟩
        case measure => simp [intOf]; omega
    · obtain rfl : k = 8 * s.size := by omega
      have HO := Lib.hid hown
      clear hown
      go_wp2
      go_ret
      exact ⟨_, rfl, by rw [HC.out]; exact HO.out, hb⟩

end Go.Proofs.YtlacmfacigfioaaDoor

/- The reference of layer 3, walked: Encode, Decode. -/
namespace Go.Proofs.YtlacmfacigfioaaDoor
set_option maxRecDepth 100000
open Go.RowKit

theorem conv1 (c : Int) (ty : TypeId) (W : World) :
    Sem.run Tryd.prog (convert 45 9 (.slice (some ⟨W.heap.size, 0, none⟩) 1 1)) (W.alloc (.cells #[.int .u8 c] ty))
      = .ok (.string (strOfNums [c])) (W.alloc (.cells #[.int .u8 c] ty)) := by
  refine run_convert_bytes_arg (P := Tryd.prog) _ 45 5 Tryd.underlying45 Tryd.underlying5 W.heap.size 0 1 1 [c] rfl ?_ 9 Tryd.underlying9
  intro i hi
  rw [Nat.zero_add, World.cell?_alloc_new]
  rcases i with _ | i
  all_goals first | (simp at hi; done) | rfl
theorem size_one (c : Int) : (strOfNums [c]).size = 1 := rfl
/-- with no check yet -/
theorem nul_cat (s : ByteArray) (h : s.size = 8) : ∃ z, s ++ strOfNums [0] = z ∧ z.size = 9 ∧ numN (bs z) = numN (bs s) := by
  refine ⟨_, rfl, by rw [ByteArray.size_append, h, size_one], ?_⟩
  have e : bs (s ++ strOfNums [0]) = bs s ++ [0] := by
    unfold bs; rw [ByteArray.data_append, Array.toList_append]; rfl
  rw [e, numN_append]
  show _ + _ * ((0 : UInt8).toNat + 256 * 0) = _
  simp

def EncPost (s : ByteArray) (w : World) (e : Ending) (w' : World) : Prop := e = .returned (.tuple #[.string (encS s), .int .i64 0]) ∧ Below w.heap.size w w'

theorem rham_enc_no (s : ByteArray) (w : World) (h : s.size ≠ 8) (hm : s.size ≤ maxLen) :
    Calls Tryd.prog 32 #[.string s] w fun e w' => e = .returned (.tuple #[.string ByteArray.empty, .int .i64 4]) ∧ w = w' := by
  have hm2 : (s.size : Int) ≤ 9223372036854775807 := by unfold maxLen at hm; omega
  have h2 : (s.size : Int) ≠ 8 := by omega
  clear hm
  go_enter Tryd.func32, Tryd.ntmps32
  go_wp2
  go_ret2
  exact ⟨rfl, rfl⟩
theorem rel_len {w wr w1 : World} {B n : Nat} {v' : Value} {x : Int} {xs : List Nat} (y : Nat) (ho : w1.ownsRow B 3 1 v' (n + 1) (xs.map V ++ [.int .i64 x])) (hv : x = (y : Nat)) (hb : Below B w wr) (hg : Below B wr w1) :
    w1.ownsRow B 3 1 v' (n + 1) ((xs ++ [y]).map V) ∧ Below B w w1 := by
  subst hv
  exact ⟨by simpa [V] using ho, hb.trans hg⟩
theorem own_len {w : World} {B n : Nat} {v : Value} {xs : List Nat} (h : w.ownsRow B 3 1 v n (xs.map V)) : xs.length = n ∧ ∃ a ca, v = .slice a n ca := by
  have hl : xs.length = n := by have := h.1; simpa using this
  obtain ⟨a, ca, h1, _⟩ := owned_ints h hl.symm
  exact ⟨hl, a, ca, by rw [← hl]; exact h1⟩

set_option maxHeartbeats 4000000 in
set_option maxRecDepth 100000 in
theorem rham_enc_yes (s : ByteArray) (w : World) (h : s.size = 8) : Calls Tryd.prog 32 #[.string s] w (EncPost s w) := by
  obtain ⟨i0, hi, hz0, hz1, hz2⟩ := info_parts Tryd.infoInt
  have HE := Lib.hid (enc_cat s)
  obtain ⟨z, hz, hz9, hzn⟩ := nul_cat s h
  have HZN := Lib.hid hzn
  have hcv := fun (c : Int) => conv1 c 5
  have hM := num_lt s h
  obtain ⟨M, hMe⟩ : ∃ M, numN (bs s) = M := ⟨_, rfl⟩
  have HMe := Lib.hid hMe
  rw [hMe] at hM
  clear hMe hzn
  go_enter Tryd.func32, Tryd.ntmps32
  go_wp2_with fail
  refine (rbits_any z _ (by omega)).mono ?_
  rintro e w1 ⟨v, rfl, hown, hb1⟩
  rw [HZN.out, HMe.out, hz9, show 8 * 9 = 72 from rfl, cnt_64 hM, ones_check hM] at hown
  obtain ⟨c0, hc0⟩ : ∃ c, cnt M 64 = c := ⟨_, rfl⟩
  have HC0 := Lib.hid hc0
  have hc64 : c0 ≤ 64 := by rw [← hc0]; exact cnt_le M 64
  rw [hc0] at hown
  clear hc0
  have hB1 : Below w.heap.size w w1 := ((Below.refl _ _).alloc (Nat.le_refl _) _).trans (hb1.mono (by simp))
  have HB1 := Lib.hid hB1
  have HO := Lib.hid hown
  clear hb1 hB1 hown
  go_wp2_with fail
  refine (rleft_any v (onesL M 64) w1 (owned_ints HO.out (by rw [onesL_length, HC0.out])) (fun i hi => by have := onesL_lt M 64 i hi; omega) (by rw [onesL_length, HC0.out]; omega)).mono ?_
  rintro e w2 ⟨rfl, hb2⟩
  rw [leftL_ones]
  obtain ⟨p, hp⟩ : ∃ p, left M 64 = p := ⟨_, rfl⟩
  have HP := Lib.hid hp
  have hp7 : p < 128 := by rw [← hp]; exact left_lt M 64
  rw [hp]
  have HB2 := Lib.hid hb2
  clear hp hb2
  have hz1' := HB1.out.size
  have hz2' := HB2.out.size
  have HEnc : ∀ q, (c0 + cnt p 7) % 2 = q → encN (numN (bs s)) = p + 128 * q := by
    intro q hq
    rw [HMe.out]; unfold encN
    rw [HP.out, HC0.out, hq]
  have HEnc' := Lib.hid HEnc
  have HBit := Lib.hid (fun k (hk : k < 8) => bt_bit p k (by omega) hk)
  clear HEnc
  have hB2 : Below w.heap.size w w2 := HB1.out.trans (HB2.out.mono hz1')
  have HBB := Lib.hid hB2
  clear hB2
  rcases owned_cells HO.out (by rw [onesL_length, HC0.out]) with ⟨rfl, h0⟩ | ⟨g, cap, rfl, hgB, hg, hcells⟩
  · have hc00 : c0 = 0 := by rw [← HC0.out, ← onesL_length, h0]; rfl
    have HL0 : Hid (w2.ownsRow w.heap.size 3 1 (.slice none 0 0) c0 ((onesL M 64).map V)) := ⟨by rw [h0, hc00]; rfl, Or.inl ⟨rfl, hc00⟩⟩
    have HBL := HBB
    clear h0 hc00
    go_wp2_with fail
    go_loopw [6, 7] (fun l i wr => ∃ k : Nat, k ≤ 7 ∧ i = .int .i64 k ∧ ∃ xs : List Nat, wr.ownsRow w.heap.size 3 1 l (c0 + cnt p k) (xs.map V) ∧ Below w.heap.size w wr) (fun _ i _ => 7 - (intOf i).toNat)
    case atStart => exact ⟨0, by omega, rfl, onesL M 64, HL0.out, HBL.out⟩
    case round =>
      obtain ⟨k, hk, rfl, xs, hown, hb⟩ := hrel
      obtain ⟨n, hn⟩ : ∃ n, c0 + cnt p k = n := ⟨_, rfl⟩
      have hn71 : n ≤ 71 := by have := cnt_le p k; omega
      have HN := Lib.hid hn
      rw [hn] at hown
      clear hn
      by_cases hlt : k < 7
      · have hbt := HBit.out k (by omega)
        cases hpk : p.testBit k with
        | true =>
          rw [hpk] at hbt
          have HBt := Lib.hid (show bt (p : Int) k = 1 from hbt)
          have HN2 : Hid (c0 + cnt p (k + 1) = n + 1) := by have := HN.out; simp only [cnt, hpk, if_true]; unfold Hid; omega
          clear hpk hbt
          go_wp2_with (first | (go_at_call 60; refine (bit_one _ k _ (by omega) (by omega) (by omega) HBt.out).mono ?_; rintro e w' ⟨rfl, rfl⟩) | (at_builtin; refine wpList_append_own _ rfl _ _ 36 rfl w.heap.size 3 i0 (.int .i64 0) 1 8 Tryd.underlying36 hi hz0 hz1 hz2 rfl (by decide) _ _ _ rfl (hown.alloc _) ⟨wr.heap.size, 0, none⟩ 1 1 [.int .i64 (64 + (k : Int))] rfl rfl ?d1 ?d2 ?d3 ?d4 ?d5 ?_))
          case d1 => exact cell_one_new _ _ _
          case d2 => intro u hu; simp at hu; subst hu; rfl
          case d3 => unfold maxLen; omega
          case d4 => omega
          case d5 => have := hb.size; simp; omega
          intro v' w4 hown4 hgrow4 hx4; clear hx4
          have HR := Lib.hid (rel_len (64 + k) hown4 (by omega) hb (own_below hown hb.size hgrow4))
          clear hown4 hgrow4 hown
          go_wp2
          go_roundw
          case rel => exact ⟨k + 1, by omega, by go_num, _, by rw [HN2.out]; exact HR.out.1, HR.out.2⟩
          case measure => simp [intOf]; omega
        | false =>
          rw [hpk] at hbt
          have HBt := Lib.hid (show bt (p : Int) k = 0 from hbt)
          have HN2 : Hid (c0 + cnt p (k + 1) = n) := by have := HN.out; simp only [cnt, hpk]; unfold Hid; simp; omega
          have HO4 := Lib.hid hown
          clear hpk hbt hown
          go_wp2_with (go_at_call 60; refine (bit_nil _ k _ (by omega) (by omega) (by omega) HBt.out).mono ?_; rintro e w' ⟨rfl, rfl⟩)
          go_roundw
          case rel => exact ⟨k + 1, by omega, by go_num, xs, by rw [HN2.out]; exact HO4.out, hb⟩
          case measure => simp [intOf]; omega
      · obtain rfl : k = 7 := by omega
        obtain ⟨_, a, ca, rfl⟩ := own_len hown
        clear hown
        by_cases hodd : n % 2 = 1
        · have hc := HEnc'.out 1 (by rw [HN.out]; exact hodd)
          have hcat := HE.out ((p : Int) + 128) (by rw [hc]; omega)
          have hodd2 : (n : Int) % 2 = 1 := by omega
          clear hc
          go_wp2
          go_ret2
          exact ⟨rfl, hb.alloc hb.size _⟩
        · have hc := HEnc'.out 0 (by rw [HN.out]; omega)
          have hcat := HE.out (p : Int) (by rw [hc]; omega)
          have hodd2 : (n : Int) % 2 = 0 := by omega
          clear hc
          go_wp2
          go_ret2
          exact ⟨rfl, hb.alloc hb.size _⟩
  · have hnews : ∀ j u, ((onesL M 64).map V)[j]? = some u → w2.cell? ((⟨g, 0, none⟩ : Addr).add j) = some u := by
      intro j u hu
      have hj : j < (onesL M 64).length := by
        rcases Nat.lt_or_ge j (onesL M 64).length with h | h
        · exact h
        · rw [List.getElem?_eq_none (by simpa using h)] at hu; cases hu
      have e : (⟨g, 0, none⟩ : Addr).add j = ⟨g, j, none⟩ := by
        unfold Addr.add
        by_cases hj0 : j = 0
        · subst hj0; rfl
        · rw [if_neg hj0, Nat.zero_add]
      rw [e, HB2.out.cell (p := ⟨g, j, none⟩) hg, hcells j hj]
      simp [V, List.getD, hj] at hu ⊢
      exact hu
    have HNews := Lib.hid hnews
    have hone : ∀ u ∈ (onesL M 64).map V, u.oneCell' = true := by
      intro u hu
      obtain ⟨x, _, rfl⟩ := List.mem_map.1 hu; rfl
    have HOne := Lib.hid hone
    have HLen : Hid (((onesL M 64).map V).length = c0 * 1) := by rw [List.length_map, onesL_length, HC0.out, Nat.mul_one]; rfl
    clear hnews hone hcells hgB hg
    go_wp2_with (at_builtin; refine wpList_append_own _ rfl _ _ 36 rfl w.heap.size 3 i0 (.int .i64 0) 1 8 Tryd.underlying36 hi hz0 hz1 hz2 rfl (by decide) (.slice none 0 0) 0 [] rfl ⟨rfl, Or.inl ⟨rfl, rfl⟩⟩ ⟨g, 0, none⟩ c0 cap ((onesL M 64).map V) rfl ?c0 ?c1 ?c2 ?c3 ?c4 ?c5 ?_)
    case c0 => exact HLen.out
    case c1 => exact HNews.out
    case c2 => exact HOne.out
    case c3 => unfold maxLen; omega
    case c4 => omega
    case c5 => exact Nat.le_trans hz1' hz2'
    intro l0 w3 hown3 hgrow3 hx3; clear hx3
    have HL0 : Hid (w3.ownsRow w.heap.size 3 1 l0 c0 ((onesL M 64).map V)) := by
      first | exact hown3 | (have h := hown3; rw [Nat.zero_add, List.nil_append] at h; exact h) | (have h := hown3; rw [List.nil_append] at h; exact h)
    have HBL : Hid (Below w.heap.size w w3) := HBB.out.trans (Below.grown (row := none) (Below.refl _ _) hgrow3 (Nat.le_trans hz1' hz2') (fun k hk => by cases hk))
    clear hown3 hgrow3 HNews HOne HLen
    go_wp2_with fail
    go_loopw [6, 7] (fun l i wr => ∃ k : Nat, k ≤ 7 ∧ i = .int .i64 k ∧ ∃ xs : List Nat, wr.ownsRow w.heap.size 3 1 l (c0 + cnt p k) (xs.map V) ∧ Below w.heap.size w wr) (fun _ i _ => 7 - (intOf i).toNat)
    case atStart => exact ⟨0, by omega, rfl, onesL M 64, HL0.out, HBL.out⟩
    case round =>
      obtain ⟨k, hk, rfl, xs, hown, hb⟩ := hrel
      obtain ⟨n, hn⟩ : ∃ n, c0 + cnt p k = n := ⟨_, rfl⟩
      have hn71 : n ≤ 71 := by have := cnt_le p k; omega
      have HN := Lib.hid hn
      rw [hn] at hown
      clear hn
      by_cases hlt : k < 7
      · have hbt := HBit.out k (by omega)
        cases hpk : p.testBit k with
        | true =>
          rw [hpk] at hbt
          have HBt := Lib.hid (show bt (p : Int) k = 1 from hbt)
          have HN2 : Hid (c0 + cnt p (k + 1) = n + 1) := by have := HN.out; simp only [cnt, hpk, if_true]; unfold Hid; omega
          clear hpk hbt
          go_wp2_with (first | (go_at_call 60; refine (bit_one _ k _ (by omega) (by omega) (by omega) HBt.out).mono ?_; rintro e w' ⟨rfl, rfl⟩) | (at_builtin; refine wpList_append_own _ rfl _ _ 36 rfl w.heap.size 3 i0 (.int .i64 0) 1 8 Tryd.underlying36 hi hz0 hz1 hz2 rfl (by decide) _ _ _ rfl (hown.alloc _) ⟨wr.heap.size, 0, none⟩ 1 1 [.int .i64 (64 + (k : Int))] rfl rfl ?d1 ?d2 ?d3 ?d4 ?d5 ?_))
          case d1 => exact cell_one_new _ _ _
          case d2 => intro u hu; simp at hu; subst hu; rfl
          case d3 => unfold maxLen; omega
          case d4 => omega
          case d5 => have := hb.size; simp; omega
          intro v' w4 hown4 hgrow4 hx4; clear hx4
          have HR := Lib.hid (rel_len (64 + k) hown4 (by omega) hb (own_below hown hb.size hgrow4))
          clear hown4 hgrow4 hown
          go_wp2
          go_roundw
          case rel => exact ⟨k + 1, by omega, by go_num, _, by rw [HN2.out]; exact HR.out.1, HR.out.2⟩
          case measure => simp [intOf]; omega
        | false =>
          rw [hpk] at hbt
          have HBt := Lib.hid (show bt (p : Int) k = 0 from hbt)
          have HN2 : Hid (c0 + cnt p (k + 1) = n) := by have := HN.out; simp only [cnt, hpk]; unfold Hid; simp; omega
          have HO4 := Lib.hid hown
          clear hpk hbt hown
          go_wp2_with (go_at_call 60; refine (bit_nil _ k _ (by omega) (by omega) (by omega) HBt.out).mono ?_; rintro e w' ⟨rfl, rfl⟩)
          go_roundw
          case rel => exact ⟨k + 1, by omega, by go_num, xs, by rw [HN2.out]; exact HO4.out, hb⟩
          case measure => simp [intOf]; omega
      · obtain rfl : k = 7 := by omega
        obtain ⟨_, a, ca, rfl⟩ := own_len hown
        clear hown
        by_cases hodd : n % 2 = 1
        · have hc := HEnc'.out 1 (by rw [HN.out]; exact hodd)
          have hcat := HE.out ((p : Int) + 128) (by rw [hc]; omega)
          have hodd2 : (n : Int) % 2 = 1 := by omega
          clear hc
          go_wp2
          go_ret2
          exact ⟨rfl, hb.alloc hb.size _⟩
        · have hc := HEnc'.out 0 (by rw [HN.out]; omega)
          have hcat := HE.out (p : Int) (by rw [hc]; omega)
          have hodd2 : (n : Int) % 2 = 0 := by omega
          clear hc
          go_wp2
          go_ret2
          exact ⟨rfl, hb.alloc hb.size _⟩

end Go.Proofs.YtlacmfacigfioaaDoor

/- The reference of layer 3, walked: Decode. -/
namespace Go.Proofs.YtlacmfacigfioaaDoor
set_option maxRecDepth 100000
open Go.RowKit

theorem rflip_at (s : ByteArray) (k : Nat) (w : World) (hm : s.size ≤ 1000) (hk : k < 8 * s.size) :
    Calls Tryd.prog 45 #[.string s, .int .i64 k] w fun e w' => e = .returned (.tuple #[.string (flipS s (k / 8) (k % 8)), .int .i64 0]) ∧ Below w.heap.size w w' := by
  have h := rflip_yes s (k / 8) (k % 8) w hm (by omega) (by omega)
  rwa [show 8 * ((k / 8 : Nat) : Int) + ((k % 8 : Nat) : Int) = (k : Int) by omega] at h
def DecPost (s : ByteArray) (w : World) (e : Ending) (w' : World) : Prop := e = .returned (.tuple #[.string (decS s).1, .int .i64 (((decS s).2 : Nat) : Int), .int .i64 0]) ∧ Below w.heap.size w w'
theorem ret_dec {a b : ByteArray} {x y : Int} {v : Value} (h1 : a = b) (h2 : x = y) : Ending.returned (.tuple #[.string a, .int .i64 x, v]) = .returned (.tuple #[.string b, .int .i64 y, v]) := by rw [h1, h2]
theorem dec_good {s : ByteArray} (h1 : cnt (numN (bs s)) 72 % 2 = 0) (h2 : left (numN (bs s)) 72 = 0) : decS s = (s.extract 0 8, 2) := by unfold decS; rw [if_pos h1, if_pos h2]
theorem dec_bad {s : ByteArray} (h1 : cnt (numN (bs s)) 72 % 2 = 0) (h2 : left (numN (bs s)) 72 ≠ 0) : decS s = (ByteArray.empty, 4) := by unfold decS; rw [if_pos h1, if_neg h2]
theorem dec_far {s : ByteArray} (h1 : ¬ cnt (numN (bs s)) 72 % 2 = 0) (h2 : 71 < left (numN (bs s)) 72) : decS s = (ByteArray.empty, 4) := by unfold decS; rw [if_neg h1, if_pos h2]
theorem dec_fix {s : ByteArray} (h1 : ¬ cnt (numN (bs s)) 72 % 2 = 0) (h2 : ¬ 71 < left (numN (bs s)) 72) : decS s = (fixS s (left (numN (bs s)) 72), 3) := by unfold decS; rw [if_neg h1, if_neg h2]
theorem fix_at {s : ByteArray} {k p : Nat} (hk : k < 64) (h : place k = p) : fixS s p = (flipS s (k / 8) (k % 8)).extract 0 8 := by
  subst h
  unfold fixS
  rw [idx_place (by omega), if_pos hk]
theorem fix_none {s : ByteArray} {p : Nat} (hp : p ≤ 71) (h : ∀ j, j < 64 → place j ≠ p) : fixS s p = s.extract 0 8 := by
  unfold fixS
  rw [if_neg]
  intro h2
  exact h _ h2 (place_idx hp).2

/-- the places lie in this block -/
def PlAt (w : World) (g : Nat) : Prop := ∀ i, i < 72 → w.cell? ⟨g, i, none⟩ = some (.int .i64 ((place i : Nat) : Int))
theorem PlAt.of {w : World} {g : Nat} (h : IntsAt w g pl) : PlAt w g := fun i hi => place_cell h i hi
theorem PlAt.at {w : World} {g i : Nat} (h : PlAt w g) (hi : i < 72) : w.cell? ⟨g, i, none⟩ = some (.int .i64 ((place i : Nat) : Int)) := h i hi
/-- no place below k is p -/
def NoTo (p k : Nat) : Prop := ∀ j, j < k → place j ≠ p
theorem NoTo.zero (p : Nat) : NoTo p 0 := fun j hj => by omega
theorem NoTo.succ {p k x : Nat} (h : NoTo p k) (hx : place k = x) (hb : ((x : Int) == (p : Int)) = false) : NoTo p (k + 1) := by
  have hxp : x ≠ p := by simp at hb; omega
  intro j hj
  rcases Nat.lt_or_ge j k with h2 | h2
  · exact h j h2
  · obtain rfl : j = k := by omega
    rw [hx]; exact hxp

theorem rham_dec_no (s : ByteArray) (w : World) (h : s.size ≠ 9) (hm : s.size ≤ maxLen) :
    Calls Tryd.prog 38 #[.string s] w fun e w' => e = .returned (.tuple #[.string ByteArray.empty, .int .i64 0, .int .i64 4]) ∧ w = w' := by
  have hm2 : (s.size : Int) ≤ 9223372036854775807 := by unfold maxLen at hm; omega
  have h2 : (s.size : Int) ≠ 9 := by omega
  clear hm
  go_enter Tryd.func38, Tryd.ntmps38
  go_wp2
  go_ret3
  exact ⟨rfl, rfl⟩

set_option maxHeartbeats 1000000 in
set_option maxRecDepth 100000 in
theorem rham_dec_yes (s : ByteArray) (w : World) (h : s.size = 9) : Calls Tryd.prog 38 #[.string s] w (DecPost s w) := by
  have h9 : (s.size : Int) = 9 := by omega
  have HG := Lib.hid (@dec_good s)
  have HBd := Lib.hid (@dec_bad s)
  have HF := Lib.hid (@dec_far s)
  have HX := Lib.hid (@dec_fix s)
  obtain ⟨M, hMe⟩ : ∃ M, numN (bs s) = M := ⟨_, rfl⟩
  have HMe := Lib.hid hMe
  rw [hMe] at HG HBd HF HX
  obtain ⟨c, hce⟩ : ∃ c, cnt M 72 = c := ⟨_, rfl⟩
  obtain ⟨p, hpe⟩ : ∃ p, left M 72 = p := ⟨_, rfl⟩
  have HC := Lib.hid hce
  have HP := Lib.hid hpe
  have hc72 : c ≤ 72 := by rw [← hce]; exact cnt_le M 72
  have hp7 : p < 128 := by rw [← hpe]; exact left_lt M 72
  rw [hce, hpe] at HG HBd HF HX
  clear hMe hce hpe
  go_enter Tryd.func38, Tryd.ntmps38
  go_wp2_with fail
  refine (rbits_any s _ (by omega)).mono ?_
  rintro e w1 ⟨v, rfl, hown, hb1⟩
  rw [HMe.out, h, show 8 * 9 = 72 from rfl] at hown
  have hI := owned_ints hown (by rw [onesL_length])
  rw [HC.out] at hown
  obtain ⟨hx0, a, ca, rfl⟩ := own_len hown
  clear hx0
  have HB1 := Lib.hid hb1
  have HI := Lib.hid hI
  clear hb1 hown hI
  go_wp2_with fail
  refine (rleft_any _ (onesL M 72) w1 HI.out (fun i hi => onesL_lt M 72 i hi) (by rw [onesL_length, HC.out]; omega)).mono ?_
  rintro e w2 ⟨rfl, hb2⟩
  rw [leftL_ones, HP.out]
  have hB2 : Below w.heap.size w w2 := HB1.out.trans (hb2.mono HB1.out.size)
  have HB2 := Lib.hid hB2
  clear hb2 hB2 HI
  by_cases hev : c % 2 = 0
  · have hev2 : (c : Int) % 2 = 0 := by omega
    by_cases hp0 : p = 0
    · have HE := Lib.hid (HG.out hev hp0)
      clear HG HBd HF HX HMe HC HP
      subst hp0
      go_wp2
      go_ret3
      exact ⟨ret_dec (by rw [HE.out]) (by rw [HE.out]; rfl), HB2.out⟩
    · have HE := Lib.hid (HBd.out hev hp0)
      have hp0b : ((p : Int) == 0) = false := by simp; omega
      clear HG HBd HF HX HMe HC HP hp0
      go_wp2
      go_ret3
      exact ⟨ret_dec (by rw [HE.out]; rfl) (by rw [HE.out]; rfl), HB2.out⟩
  · have hev2 : ((c : Int) % 2 == 0) = false := by simp; omega
    by_cases hp71 : 71 < p
    · have HE := Lib.hid (HF.out hev hp71)
      have hp71b : decide ((71 : Int) < (p : Int)) = true := by simp; omega
      have hp0b : ((p : Int) == 0) = false := by simp; omega
      clear HG HBd HF HX HMe HC HP hev hp71
      go_wp2
      go_ret3
      exact ⟨ret_dec (by rw [HE.out]; rfl) (by rw [HE.out]; rfl), HB2.out⟩
    · have HE := Lib.hid (HX.out hev hp71)
      have hp71b : decide ((71 : Int) < (p : Int)) = false := by simp; omega
      clear HG HBd HF HX HMe HC HP hev
      go_wp2_with fail
      refine (places_any _).mono ?_
      rintro e w3 ⟨v, rfl, hown3, hb3⟩
      rcases owned_cells hown3 rfl with ⟨_, h0⟩ | ⟨g, cap, rfl, _, hg, hpl⟩
      · exact absurd h0 (by decide)
      have HPl := Lib.hid (PlAt.of hpl)
      have HB3 := Lib.hid (HB2.out.trans (hb3.mono HB2.out.size))
      clear hown3 hpl hb3
      go_wp2_with fail
      go_loop [8] (fun i => ∃ k : Nat, k ≤ 64 ∧ i = .int .i64 k ∧ NoTo p k) (fun i => 64 - (intOf i).toNat)
      case atStart => exact ⟨0, by omega, rfl, NoTo.zero p⟩
      case round =>
        obtain ⟨k, hk, rfl, hno⟩ := hrel
        have HNo := Lib.hid hno
        clear hno
        by_cases hlt : k < 64
        · have hcell := HPl.out.at (i := k) (by omega)
          obtain ⟨x, hx⟩ : ∃ x, place k = x := ⟨_, rfl⟩
          have HXk := Lib.hid hx
          rw [hx] at hcell
          clear hx
          by_cases hxp : x = p
          · subst hxp
            have HFix := Lib.hid (fix_at (s := s) hlt HXk.out)
            obtain ⟨t, ht⟩ : ∃ t, flipS s (k / 8) (k % 8) = t := ⟨_, rfl⟩
            have ht9 : t.size = 9 := by rw [← ht, flipS_size _ _ _ (by omega), h]
            have HT := Lib.hid ht
            rw [ht] at HFix
            clear ht hp71
            go_wp2_with fail
            refine (rflip_at s k _ (by omega) (by omega)).mono ?_
            rintro e w4 ⟨rfl, hb4⟩
            rw [HT.out]
            have HB4 := Lib.hid (HB3.out.trans (hb4.mono HB3.out.size))
            clear hb4 HT
            go_wp2
            go_ret3
            exact ⟨ret_dec (by rw [HE.out]; exact HFix.out.symm) (by rw [HE.out]; rfl), HB4.out⟩
          · have hxp2 : ((x : Int) == (p : Int)) = false := by simp; omega
            clear hxp
            go_wp2
            go_round
            case rel => exact ⟨k + 1, by omega, by go_num, HNo.out.succ HXk.out hxp2⟩
            case measure => simp [intOf]; omega
        · obtain rfl : k = 64 := by omega
          have HFix := Lib.hid (fix_none (s := s) (by omega) HNo.out)
          clear HNo
          go_wp2
          go_ret3
          exact ⟨ret_dec (by rw [HE.out]; exact HFix.out.symm) (by rw [HE.out]; rfl), HB3.out⟩

end Go.Proofs.YtlacmfacigfioaaDoor

/- The reference of layer 5, walked: Encode. -/
namespace Go.Proofs.YtlacmfacigfioaaDoor
set_option maxRecDepth 100000
open Go.RowKit

theorem rfr_may_nat (n : Nat) (w : World) : Calls Tryd.prog 29 #[.int .i64 n] w fun r w' => r = .returned (.bool (decide (LenOk n))) ∧ w = w' := by
  have h := rfr_may (n : Int) w
  rwa [show decide (0 ≤ (n : Int) ∧ LenOk (n : Int).toNat) = decide (LenOk n) by simp] at h
/-- a slice of four noughts lies at g -/
def Four (w : World) (g : Nat) : Prop := ∀ i, i < 4 → w.cell? ⟨g, i, none⟩ = some (.int .u8 0)
theorem cells4 (w : World) (t : TypeId) : Four (w.alloc (.cells #[.int .u8 0, .int .u8 0, .int .u8 0, .int .u8 0] t)) w.heap.size := by
  intro i hi
  rw [World.cell?_alloc_new]
  rcases i with _ | _ | _ | _ | i
  all_goals first | omega | rfl
theorem Four.after {w w' : World} {g : Nat} (h : Four w g) (hb : Below w.heap.size w w') : Four w' g := fun i hi => (Below.cell (p := ⟨g, i, none⟩) hb (cell_lt (h i hi))).trans (h i hi)
theorem conv_four (g : Nat) (w : World) (h : Four w g) : Sem.run Tryd.prog (convert 45 9 (.slice (some ⟨g, 0, none⟩) 4 4)) w = .ok (.string four0) w := by
  refine run_convert_bytes_arg (P := Tryd.prog) _ 45 5 Tryd.underlying45 Tryd.underlying5 g 0 4 4 [0, 0, 0, 0] rfl ?_ 9 Tryd.underlying9
  intro i hi
  rw [Nat.zero_add, h i hi]
  rcases i with _ | _ | _ | _ | i
  all_goals first | omega | rfl
def SpF (d : Tmp) (_ : Nat) (a : Act) (w : World) : Prop := ∃ g, a.tmps.getD d undef = .slice (some ⟨g, 0, none⟩) 4 4 ∧ Four w g
theorem SpF.ext {d : Tmp} : ∀ j a a' w w', SpF d j a w → (∀ s ∈ [d], a'.tmps.getD s undef = a.tmps.getD s undef) → Goes w w' → SpF d j a' w' := by
  rintro j a a' w w' ⟨g, h1, h2⟩ hd hT
  exact ⟨g, (hd d (by simp)).trans h1, h2.after hT⟩
/-- nothing below has turned -/
def Kept (w0 w : World) : Prop := Below w0.heap.size w0 w
theorem Kept.call {w0 w w' : World} (h : Kept w0 w) (hb : Below w.heap.size w w') : Kept w0 w' := Below.trans h (hb.mono (Below.size h))
theorem Kept.drew {w0 w : World} (h : Kept w0 w) : Kept w0 w.drew := Below.drew h

/-- what each operation of the region FE leaves -/
def vsFE (hd data x y z : ByteArray) : List (Option (Tmp × Value)) :=
  [some (25, .string hd), some (26, .string data), some (27, .string x), some (28, .string y), none, some (30, .string four0), some (31, .string z), some (8, .string z)]
/-- the frame while the region FE runs -/
def BaseFE (hd data : ByteArray) (a : Act) : Prop := ∃ u : Nat → Value, a = ⟨#[u 0, .string data, u 2, u 3, u 4, u 5, .string hd, u 7, u 8, u 9, u 10, u 11, u 12, u 13, u 14, u 15, u 16, u 17, u 18, u 19, u 20, u 21, u 22, u 23, u 24, u 25, u 26, u 27, u 28, u 29, u 30, u 31, u 32, u 33, u 34, u 35, u 36, u 37, u 38, u 39, u 40, u 41, u 42, u 43, u 44, u 45, u 46, u 47, u 48, u 49, u 50, u 51], []⟩
theorem BaseFE.of {hd data : ByteArray} (arr : Array Value) (h : arr = #[arr.getD 0 undef, .string data, arr.getD 2 undef, arr.getD 3 undef, arr.getD 4 undef, arr.getD 5 undef, .string hd, arr.getD 7 undef, arr.getD 8 undef, arr.getD 9 undef, arr.getD 10 undef, arr.getD 11 undef, arr.getD 12 undef, arr.getD 13 undef, arr.getD 14 undef, arr.getD 15 undef, arr.getD 16 undef, arr.getD 17 undef, arr.getD 18 undef, arr.getD 19 undef, arr.getD 20 undef, arr.getD 21 undef, arr.getD 22 undef, arr.getD 23 undef, arr.getD 24 undef, arr.getD 25 undef, arr.getD 26 undef, arr.getD 27 undef, arr.getD 28 undef, arr.getD 29 undef, arr.getD 30 undef, arr.getD 31 undef, arr.getD 32 undef, arr.getD 33 undef, arr.getD 34 undef, arr.getD 35 undef, arr.getD 36 undef, arr.getD 37 undef, arr.getD 38 undef, arr.getD 39 undef, arr.getD 40 undef, arr.getD 41 undef, arr.getD 42 undef, arr.getD 43 undef, arr.getD 44 undef, arr.getD 45 undef, arr.getD 46 undef, arr.getD 47 undef, arr.getD 48 undef, arr.getD 49 undef, arr.getD 50 undef, arr.getD 51 undef]) : BaseFE hd data ⟨arr, []⟩ := ⟨fun i => arr.getD i undef, by rw [← h]⟩
theorem BaseFE.put25 {hd data : ByteArray} (a : Act) (v : Value) (h : BaseFE hd data a) : BaseFE hd data (a.put (some 25) v) := by
  obtain ⟨u, rfl⟩ := h
  exact ⟨fun i => if i = 25 then v else u i, by kernel_rfl⟩
theorem BaseFE.put26 {hd data : ByteArray} (a : Act) (v : Value) (h : BaseFE hd data a) : BaseFE hd data (a.put (some 26) v) := by
  obtain ⟨u, rfl⟩ := h
  exact ⟨fun i => if i = 26 then v else u i, by kernel_rfl⟩
theorem BaseFE.put27 {hd data : ByteArray} (a : Act) (v : Value) (h : BaseFE hd data a) : BaseFE hd data (a.put (some 27) v) := by
  obtain ⟨u, rfl⟩ := h
  exact ⟨fun i => if i = 27 then v else u i, by kernel_rfl⟩
theorem BaseFE.put28 {hd data : ByteArray} (a : Act) (v : Value) (h : BaseFE hd data a) : BaseFE hd data (a.put (some 28) v) := by
  obtain ⟨u, rfl⟩ := h
  exact ⟨fun i => if i = 28 then v else u i, by kernel_rfl⟩
theorem BaseFE.put29 {hd data : ByteArray} (a : Act) (v : Value) (h : BaseFE hd data a) : BaseFE hd data (a.put (some 29) v) := by
  obtain ⟨u, rfl⟩ := h
  exact ⟨fun i => if i = 29 then v else u i, by kernel_rfl⟩
theorem BaseFE.put30 {hd data : ByteArray} (a : Act) (v : Value) (h : BaseFE hd data a) : BaseFE hd data (a.put (some 30) v) := by
  obtain ⟨u, rfl⟩ := h
  exact ⟨fun i => if i = 30 then v else u i, by kernel_rfl⟩
theorem BaseFE.put31 {hd data : ByteArray} (a : Act) (v : Value) (h : BaseFE hd data a) : BaseFE hd data (a.put (some 31) v) := by
  obtain ⟨u, rfl⟩ := h
  exact ⟨fun i => if i = 31 then v else u i, by kernel_rfl⟩
theorem BaseFE.put8 {hd data : ByteArray} (a : Act) (v : Value) (h : BaseFE hd data a) : BaseFE hd data (a.put (some 8) v) := by
  obtain ⟨u, rfl⟩ := h
  exact ⟨fun i => if i = 8 then v else u i, by kernel_rfl⟩

def FrEnc (k l q e : Int) (data : ByteArray) (w : World) (r : Ending) (w' : World) : Prop := r = .returned (.tuple #[.string (frT k l q e data), .int .i64 (frE k l q e data)]) ∧ Below w.heap.size w w'

set_option maxRecDepth 100000 in
theorem rfr_enc_long (k l q e : Int) (data : ByteArray) (w : World) (hm : data.size ≤ maxLen) (h : ¬ LenOk data.size) :
    Calls Tryd.prog 11 #[.agg (ta k l q e), .string data] w (FrEnc k l q e data w) := by
  unfold FrEnc frT frE
  rw [if_neg (fun x => h x.1), if_neg h]
  have HD : Hid (decide (LenOk data.size) = false) := decide_eq_false h
  have hm2 : (data.size : Int) ≤ 9223372036854775807 := by unfold maxLen at hm; omega
  clear h hm
  go_enter Tryd.func11, Tryd.ntmps11
  go_wp2_with fail
  refine (rfr_may_nat _ _).mono ?_
  rintro r w' ⟨rfl, rfl⟩
  rw [HD.out]
  go_wp2_with fail
  go_ret2
  exact ⟨rfl, (Below.refl _ _).alloc (Nat.le_refl _) _⟩

set_option maxRecDepth 100000 in
theorem rfr_enc_range (k l q e : Int) (data : ByteArray) (w : World) (h : LenOk data.size) (hm : ¬ MayT k l q e) :
    Calls Tryd.prog 11 #[.agg (ta k l q e), .string data] w (FrEnc k l q e data w) := by
  unfold FrEnc frT frE
  rw [if_neg (fun x => hm x.2), if_pos h, if_neg hm]
  have HD : Hid (decide (LenOk data.size) = true) := decide_eq_true h
  have hm2 : (data.size : Int) ≤ 9223372036854775807 := by have := h.2.1; omega
  have HM := Lib.hid hm
  clear h hm
  go_enter Tryd.func11, Tryd.ntmps11
  go_wp2_with fail
  refine (rfr_may_nat _ _).mono ?_
  rintro r w' ⟨rfl, rfl⟩
  rw [HD.out]
  go_wp2_with (refine wpList_load_row rfl 23 (.tmp 2) rfl w.heap.size rfl 23 (ta k l q e) (0, 0) _ (Blk.new w (ta k l q e) 23) Tryd.underlying23 rfl size_tag ?_)
  refine (rtag_enc_no k l q e _ HM.out).mono ?_
  rintro r w1 ⟨rfl, hb1⟩
  have HB1 := Lib.hid (((Below.refl _ _).alloc (Nat.le_refl _) _).trans (hb1.mono (by simp)))
  clear hb1
  go_wp2_with fail
  go_ret2
  exact ⟨rfl, HB1.out⟩

set_option maxHeartbeats 1000000 in
set_option maxRecDepth 100000 in
theorem rfr_enc_yes (k l q e : Int) (data : ByteArray) (w : World) (h : LenOk data.size) (hm : MayT k l q e) :
    Calls Tryd.prog 11 #[.agg (ta k l q e), .string data] w (FrEnc k l q e data w) := by
  unfold FrEnc frT frE
  rw [if_pos ⟨h, hm⟩, if_pos h, if_pos hm]
  have HD : Hid (decide (LenOk data.size) = true) := decide_eq_true h
  have hd8 : 8 ≤ data.size := h.1
  have hd256 : data.size ≤ 256 := h.2.1
  have hdm : data.size % 8 = 0 := h.2.2
  have HM := Lib.hid hm
  obtain ⟨t, ht⟩ : ∃ t, tagS k l q e = t := ⟨_, rfl⟩
  have ht16 : t.size = 16 := by rw [← ht]; exact tagS_size _ _ _ _
  obtain ⟨x, hx⟩ : ∃ x, t ++ data = x := ⟨_, rfl⟩
  have hxs : x.size = 16 + data.size := by rw [← hx, ByteArray.size_append]; omega
  obtain ⟨y, hy⟩ : ∃ y, sealS x = y := ⟨_, rfl⟩
  have hys : y.size = 20 + data.size := by rw [← hy, sealS_size]; omega
  obtain ⟨z, hz⟩ : ∃ z, y ++ four0 = z := ⟨_, rfl⟩
  have hzs : z.size = 24 + data.size := by rw [← hz, ByteArray.size_append, show four0.size = 4 from rfl]; omega
  obtain ⟨c, hc⟩ : ∃ c, (data.size + 24) / 8 = c := ⟨_, rfl⟩
  have hzc : z.size = 8 * c := by omega
  have hc36 : c ≤ 36 := by omega
  have HP : Hid (pageS k l q e data = chunks z c) := by unfold pageS inner; rw [ht, hx, hy, hz, hc]; exact rfl
  have HT := Lib.hid ht
  have HX := Lib.hid hx
  have HY := Lib.hid hy
  have HZ := Lib.hid hz
  have HYS := Lib.hid hys
  have HXS : Hid (x.size ≤ 1000) := by rw [hxs]; show 16 + data.size ≤ 1000; omega
  have hts : (t.size : Int) = 16 := by omega
  have hzi : (z.size : Int) = 8 * (c : Int) := by omega
  clear h hm ht hx hy hz hc hys hzs hdm hd8
  go_enter Tryd.func11, Tryd.ntmps11
  go_wp2_with fail
  refine (rfr_may_nat _ _).mono ?_
  rintro r w' ⟨rfl, rfl⟩
  rw [HD.out]
  go_wp2_with (refine wpList_load_row rfl 23 (.tmp 2) rfl w.heap.size rfl 23 (ta k l q e) (0, 0) _ (Blk.new w (ta k l q e) 23) Tryd.underlying23 rfl size_tag ?_)
  refine (rtag_enc_yes k l q e _ HM.out).mono ?_
  rintro r w1 ⟨rfl, hb1⟩
  rw [HT.out]
  have HB1 : Hid (Kept w w1) := ((Below.refl _ _).alloc (Nat.le_refl _) _).trans (hb1.mono (by simp))
  clear hb1
  go_wp2_with fail
  refine wp_region_list3 (SV (vsFE t data x y z) [29]) (BaseFE t data) (Kept w) Goes (RV (vsFE t data x y z) (SpF 29)) rfl (by kernel_rfl) (RV.ext SpF.ext) ?base HB1.out.drew (BaseFE.of _ (by kernel_rfl)) ?steps ?fin
  case base => exact ⟨BaseFE.put25, BaseFE.put26, BaseFE.put27, BaseFE.put28, BaseFE.put29, BaseFE.put30, BaseFE.put31, BaseFE.put8, trivial⟩
  case steps =>
    refine ⟨?_, ?_, ?_, ?_, ?_, ?_, ?_, ?_, trivial⟩
    all_goals
      intro a w' hC hB hR
      obtain ⟨u, rfl⟩ := hB
      have HC := Lib.hid hC
      clear hC
    · clear hR
      refine if_yes (by kernel_rfl) ?_
      unfold Oper.wp
      go_simp
      exact ⟨.string t, rfl, HC.out, Below.refl _ _, rfl⟩
    · clear hR
      refine if_yes (by kernel_rfl) ?_
      unfold Oper.wp
      go_simp
      exact ⟨.string data, rfl, HC.out, Below.refl _ _, rfl⟩
    · have h25 : u 25 = .string t := hR ⟨0, .data⟩ (by simp) rfl
      have h26 : u 26 = .string data := hR ⟨1, .data⟩ (by simp) rfl
      have hx := HX.out
      have hno : ¬ 9223372036854775807 < 16 + data.size := by omega
      clear hR
      simp only [h25, h26]
      clear h25 h26
      refine if_yes (by kernel_rfl) ?_
      unfold Oper.wp
      go_simp
      exact ⟨.string x, rfl, HC.out, Below.refl _ _, rfl⟩
    · have h27 : u 27 = .string x := hR ⟨2, .data⟩ (by simp) rfl
      clear hR
      simp only [h27]
      clear h27
      refine if_yes (by kernel_rfl) ?_
      unfold Oper.wp
      go_simp
      refine (rseal_any x _ HXS.out).mono ?_
      rintro r w2 ⟨rfl, hb2⟩
      rw [HY.out]
      exact ⟨.string y, rfl, HC.out.call hb2, hb2, rfl⟩
    · clear hR
      refine if_yes (by kernel_rfl) ?_
      unfold Oper.wp
      go_simp
      exact ⟨.slice (some ⟨w'.heap.size, 0, none⟩) 4 4, rfl, HC.out.call ((Below.refl _ _).alloc (Nat.le_refl _) _), (Below.refl _ _).alloc (Nat.le_refl _) _, ⟨w'.heap.size, rfl, cells4 w' _⟩⟩
    · obtain ⟨g, hg, hz⟩ := hR ⟨4, .data⟩ (by simp) rfl
      have hg : u 29 = .slice (some ⟨g, 0, none⟩) 4 4 := hg
      clear hR
      refine if_yes (by kernel_rfl) ?_
      simp only [hg]
      have hcv := conv_four g w' hz
      unfold Oper.wp
      go_simp
      exact ⟨.string four0, rfl, HC.out, Below.refl _ _, rfl⟩
    · have h28 : u 28 = .string y := hR ⟨3, .data⟩ (by simp) rfl
      have h30 : u 30 = .string four0 := hR ⟨5, .data⟩ (by simp) rfl
      have hzz := HZ.out
      have hno : ¬ 9223372036854775807 < y.size + four0.size := by rw [HYS.out, show four0.size = 4 from rfl]; omega
      clear hR
      simp only [h28, h30]
      clear h28 h30
      refine if_yes (by kernel_rfl) ?_
      unfold Oper.wp
      go_simp
      exact ⟨.string z, rfl, HC.out, Below.refl _ _, rfl⟩
    · have h31 : u 31 = .string z := hR ⟨6, .data⟩ (by simp) rfl
      clear hR
      simp only [h31]
      clear h31
      refine if_yes (by kernel_rfl) ?_
      unfold Oper.wp
      go_simp
      exact ⟨.string z, rfl, HC.out, Below.refl _ _, rfl⟩
  case fin =>
    intro a w' hC hB hR
    have h8 : a.tmps.getD 8 undef = .string z := hR 7 (by decide)
    clear hR
    have HC := Lib.hid hC
    clear hC
    obtain ⟨u, rfl⟩ := hB
    have h8 : u 8 = .string z := h8
    simp only [h8]
    clear h8
    go_wp2_with fail
    go_loopw [9, 10] (fun o i wr => ∃ k : Nat, k ≤ c ∧ i = .int .i64 ((8 * k : Nat) : Int) ∧ o = .string (chunks z k) ∧ Below w.heap.size w wr) (fun _ i _ => z.size + 8 - (intOf i).toNat)
    case atStart => exact ⟨0, Nat.zero_le _, rfl, rfl, HC.out⟩
    case round =>
      obtain ⟨k, hk, rfl, rfl, hb⟩ := hrel
      obtain ⟨wo, rfl⟩ : ∃ wo : World, wo = wr := ⟨_, rfl⟩
      have HB := Lib.hid hb
      clear hb
      have hcs := chunks_size z k (by omega)
      obtain ⟨j, hj⟩ : ∃ j, 8 * k = j := ⟨_, rfl⟩
      have hj4 : j ≤ 400 := by omega
      obtain ⟨o, ho⟩ : ∃ o, chunks z k = o := ⟨_, rfl⟩
      rw [ho] at hcs ⊢
      rw [hj]
      have ho4 : o.size ≤ 400 := by omega
      have HJ := Lib.hid hj
      have HO := Lib.hid ho
      by_cases hlt : k < c
      · have hjs : j + 8 ≤ z.size := by omega
        have hp : piece z 8 k = z.extract j (j + 8) := by unfold piece; rw [hj]
        have hz8 := piece_size z 8 k (by omega)
        have HN : Hid (chunks z (k + 1) = o ++ encS (z.extract j (j + 8))) := by show chunks z k ++ encS (piece z 8 k) = _; rw [hp, ho]
        rw [hp] at hz8
        have HZ8 := Lib.hid hz8
        clear hp hz8 hcs hj ho hlt
        go_wp2_with fail
        refine (rham_enc_yes (z.extract j (j + 8)) _ HZ8.out).mono ?_
        rintro r w2 ⟨rfl, hb2⟩
        have HB2 := Lib.hid (HB.out.trans (hb2.mono HB.out.size))
        have he9 := encS_size (z.extract j (j + 8))
        rw [HZ8.out] at he9
        obtain ⟨v, hv⟩ : ∃ v, encS (z.extract j (j + 8)) = v := ⟨_, rfl⟩
        rw [hv] at HN he9 ⊢
        clear hb2 hv
        go_wp2_with fail
        go_roundw
        case rel => exact ⟨k + 1, by have := HJ.out; omega, by have := HJ.out; rw [show 8 * (k + 1) = j + 8 by omega]; try go_num, by rw [HN.out], HB2.out⟩
        case measure => simp [intOf]; omega
      · obtain rfl : k = c := by omega
        have hjs : ¬ (j : Int) + 8 ≤ (z.size : Int) := by omega
        have hjb : decide ((j : Int) + 8 ≤ (z.size : Int)) = false := by simp; omega
        clear hcs hj ho hlt
        go_wp2
        go_ret2
        exact ⟨ret_str (by rw [HP.out, HO.out]), HB.out⟩

theorem rfr_enc (k l q e : Int) (data : ByteArray) (w : World) (hm : data.size ≤ maxLen) : Calls Tryd.prog 11 #[.agg (ta k l q e), .string data] w (FrEnc k l q e data w) := by
  by_cases h : LenOk data.size
  · by_cases h2 : MayT k l q e
    · exact rfr_enc_yes k l q e data w h h2
    · exact rfr_enc_range k l q e data w h h2
  · exact rfr_enc_long k l q e data w hm h

end Go.Proofs.YtlacmfacigfioaaDoor

/- The frames of the two drawn regions of the reference's Decode. -/
namespace Go.Proofs.YtlacmfacigfioaaDoor
set_option maxRecDepth 100000
open Go.RowKit

theorem size_page : (Tryd.prog.info? 30).map (·.size) = some 6 := by kernel_rfl
theorem pv_one (what k l q e : Int) (d : ByteArray) : (pv what k l q e d).all (·.oneCell') = true := by
  rw [Array.all_eq_true_iff_forall_mem]
  intro v hv
  simp [pv] at hv
  rcases hv with rfl | rfl | rfl | rfl | rfl | rfl <;> rfl
theorem build_page (f k l q e : Int) (dt : ByteArray) (w : World) : (Instr.build 30 #[(0, .int .i64 f), (1, .agg (ta k l q e)), (2, .string dt)]).run Tryd.prog w = .ok (.agg (pv f k l q e dt)) w := by kernel_rfl

/-- what each operation of the region FDA leaves -/
def vsFDA (e : Int) : List (Option (Tmp × Value)) :=
  [some (63, .int .i64 e), some (64, .bool true), some (65, .bool true), some (66, undef), some (67, undef), some (68, undef), some (69, undef), some (70, undef), some (71, undef), some (72, undef), some (73, .bool true), some (74, .bool true), some (75, undef), some (76, undef), some (77, undef), some (78, undef), some (79, undef), some (80, undef), some (81, .bool true)]
/-- the frame while the region FDA runs -/
def BaseFDA (B g : Nat) (o : ByteArray) (f e : Int) (a : Act) : Prop := ∃ u : Nat → Value, a = ⟨#[u 0, u 1, .pointer (some ⟨B, 0, none⟩), .string o, .int .i64 f, u 5, u 6, u 7, u 8, .int .i64 (o.size : Nat), .pointer (some ⟨g, 0, none⟩), .int .i64 e, u 12, u 13, u 14, u 15, u 16, u 17, u 18, u 19, u 20, u 21, u 22, u 23, u 24, u 25, u 26, u 27, u 28, u 29, u 30, u 31, u 32, u 33, u 34, u 35, u 36, u 37, u 38, u 39, u 40, u 41, u 42, u 43, u 44, u 45, u 46, u 47, u 48, u 49, u 50, u 51, u 52, u 53, u 54, u 55, u 56, u 57, u 58, u 59, u 60, u 61, u 62, u 63, u 64, u 65, u 66, u 67, u 68, u 69, u 70, u 71, u 72, u 73, u 74, u 75, u 76, u 77, u 78, u 79, u 80, u 81, u 82, u 83, u 84, u 85, u 86, u 87, u 88, u 89], []⟩
theorem BaseFDA.of {B g : Nat} {o : ByteArray} {f e : Int} (arr : Array Value) (h : arr = #[arr.getD 0 undef, arr.getD 1 undef, .pointer (some ⟨B, 0, none⟩), .string o, .int .i64 f, arr.getD 5 undef, arr.getD 6 undef, arr.getD 7 undef, arr.getD 8 undef, .int .i64 (o.size : Nat), .pointer (some ⟨g, 0, none⟩), .int .i64 e, arr.getD 12 undef, arr.getD 13 undef, arr.getD 14 undef, arr.getD 15 undef, arr.getD 16 undef, arr.getD 17 undef, arr.getD 18 undef, arr.getD 19 undef, arr.getD 20 undef, arr.getD 21 undef, arr.getD 22 undef, arr.getD 23 undef, arr.getD 24 undef, arr.getD 25 undef, arr.getD 26 undef, arr.getD 27 undef, arr.getD 28 undef, arr.getD 29 undef, arr.getD 30 undef, arr.getD 31 undef, arr.getD 32 undef, arr.getD 33 undef, arr.getD 34 undef, arr.getD 35 undef, arr.getD 36 undef, arr.getD 37 undef, arr.getD 38 undef, arr.getD 39 undef, arr.getD 40 undef, arr.getD 41 undef, arr.getD 42 undef, arr.getD 43 undef, arr.getD 44 undef, arr.getD 45 undef, arr.getD 46 undef, arr.getD 47 undef, arr.getD 48 undef, arr.getD 49 undef, arr.getD 50 undef, arr.getD 51 undef, arr.getD 52 undef, arr.getD 53 undef, arr.getD 54 undef, arr.getD 55 undef, arr.getD 56 undef, arr.getD 57 undef, arr.getD 58 undef, arr.getD 59 undef, arr.getD 60 undef, arr.getD 61 undef, arr.getD 62 undef, arr.getD 63 undef, arr.getD 64 undef, arr.getD 65 undef, arr.getD 66 undef, arr.getD 67 undef, arr.getD 68 undef, arr.getD 69 undef, arr.getD 70 undef, arr.getD 71 undef, arr.getD 72 undef, arr.getD 73 undef, arr.getD 74 undef, arr.getD 75 undef, arr.getD 76 undef, arr.getD 77 undef, arr.getD 78 undef, arr.getD 79 undef, arr.getD 80 undef, arr.getD 81 undef, arr.getD 82 undef, arr.getD 83 undef, arr.getD 84 undef, arr.getD 85 undef, arr.getD 86 undef, arr.getD 87 undef, arr.getD 88 undef, arr.getD 89 undef]) : BaseFDA B g o f e ⟨arr, []⟩ := ⟨fun i => arr.getD i undef, by rw [← h]⟩
theorem BaseFDA.put63 {B g : Nat} {o : ByteArray} {f e : Int} (a : Act) (v : Value) (h : BaseFDA B g o f e a) : BaseFDA B g o f e (a.put (some 63) v) := by
  obtain ⟨u, rfl⟩ := h
  exact ⟨fun i => if i = 63 then v else u i, by kernel_rfl⟩
theorem BaseFDA.put64 {B g : Nat} {o : ByteArray} {f e : Int} (a : Act) (v : Value) (h : BaseFDA B g o f e a) : BaseFDA B g o f e (a.put (some 64) v) := by
  obtain ⟨u, rfl⟩ := h
  exact ⟨fun i => if i = 64 then v else u i, by kernel_rfl⟩
theorem BaseFDA.put65 {B g : Nat} {o : ByteArray} {f e : Int} (a : Act) (v : Value) (h : BaseFDA B g o f e a) : BaseFDA B g o f e (a.put (some 65) v) := by
  obtain ⟨u, rfl⟩ := h
  exact ⟨fun i => if i = 65 then v else u i, by kernel_rfl⟩
theorem BaseFDA.put66 {B g : Nat} {o : ByteArray} {f e : Int} (a : Act) (v : Value) (h : BaseFDA B g o f e a) : BaseFDA B g o f e (a.put (some 66) v) := by
  obtain ⟨u, rfl⟩ := h
  exact ⟨fun i => if i = 66 then v else u i, by kernel_rfl⟩
theorem BaseFDA.put67 {B g : Nat} {o : ByteArray} {f e : Int} (a : Act) (v : Value) (h : BaseFDA B g o f e a) : BaseFDA B g o f e (a.put (some 67) v) := by
  obtain ⟨u, rfl⟩ := h
  exact ⟨fun i => if i = 67 then v else u i, by kernel_rfl⟩
theorem BaseFDA.put68 {B g : Nat} {o : ByteArray} {f e : Int} (a : Act) (v : Value) (h : BaseFDA B g o f e a) : BaseFDA B g o f e (a.put (some 68) v) := by
  obtain ⟨u, rfl⟩ := h
  exact ⟨fun i => if i = 68 then v else u i, by kernel_rfl⟩
theorem BaseFDA.put69 {B g : Nat} {o : ByteArray} {f e : Int} (a : Act) (v : Value) (h : BaseFDA B g o f e a) : BaseFDA B g o f e (a.put (some 69) v) := by
  obtain ⟨u, rfl⟩ := h
  exact ⟨fun i => if i = 69 then v else u i, by kernel_rfl⟩
theorem BaseFDA.put70 {B g : Nat} {o : ByteArray} {f e : Int} (a : Act) (v : Value) (h : BaseFDA B g o f e a) : BaseFDA B g o f e (a.put (some 70) v) := by
  obtain ⟨u, rfl⟩ := h
  exact ⟨fun i => if i = 70 then v else u i, by kernel_rfl⟩
theorem BaseFDA.put71 {B g : Nat} {o : ByteArray} {f e : Int} (a : Act) (v : Value) (h : BaseFDA B g o f e a) : BaseFDA B g o f e (a.put (some 71) v) := by
  obtain ⟨u, rfl⟩ := h
  exact ⟨fun i => if i = 71 then v else u i, by kernel_rfl⟩
theorem BaseFDA.put72 {B g : Nat} {o : ByteArray} {f e : Int} (a : Act) (v : Value) (h : BaseFDA B g o f e a) : BaseFDA B g o f e (a.put (some 72) v) := by
  obtain ⟨u, rfl⟩ := h
  exact ⟨fun i => if i = 72 then v else u i, by kernel_rfl⟩
theorem BaseFDA.put73 {B g : Nat} {o : ByteArray} {f e : Int} (a : Act) (v : Value) (h : BaseFDA B g o f e a) : BaseFDA B g o f e (a.put (some 73) v) := by
  obtain ⟨u, rfl⟩ := h
  exact ⟨fun i => if i = 73 then v else u i, by kernel_rfl⟩
theorem BaseFDA.put74 {B g : Nat} {o : ByteArray} {f e : Int} (a : Act) (v : Value) (h : BaseFDA B g o f e a) : BaseFDA B g o f e (a.put (some 74) v) := by
  obtain ⟨u, rfl⟩ := h
  exact ⟨fun i => if i = 74 then v else u i, by kernel_rfl⟩
theorem BaseFDA.put75 {B g : Nat} {o : ByteArray} {f e : Int} (a : Act) (v : Value) (h : BaseFDA B g o f e a) : BaseFDA B g o f e (a.put (some 75) v) := by
  obtain ⟨u, rfl⟩ := h
  exact ⟨fun i => if i = 75 then v else u i, by kernel_rfl⟩
theorem BaseFDA.put76 {B g : Nat} {o : ByteArray} {f e : Int} (a : Act) (v : Value) (h : BaseFDA B g o f e a) : BaseFDA B g o f e (a.put (some 76) v) := by
  obtain ⟨u, rfl⟩ := h
  exact ⟨fun i => if i = 76 then v else u i, by kernel_rfl⟩
theorem BaseFDA.put77 {B g : Nat} {o : ByteArray} {f e : Int} (a : Act) (v : Value) (h : BaseFDA B g o f e a) : BaseFDA B g o f e (a.put (some 77) v) := by
  obtain ⟨u, rfl⟩ := h
  exact ⟨fun i => if i = 77 then v else u i, by kernel_rfl⟩
theorem BaseFDA.put78 {B g : Nat} {o : ByteArray} {f e : Int} (a : Act) (v : Value) (h : BaseFDA B g o f e a) : BaseFDA B g o f e (a.put (some 78) v) := by
  obtain ⟨u, rfl⟩ := h
  exact ⟨fun i => if i = 78 then v else u i, by kernel_rfl⟩
theorem BaseFDA.put79 {B g : Nat} {o : ByteArray} {f e : Int} (a : Act) (v : Value) (h : BaseFDA B g o f e a) : BaseFDA B g o f e (a.put (some 79) v) := by
  obtain ⟨u, rfl⟩ := h
  exact ⟨fun i => if i = 79 then v else u i, by kernel_rfl⟩
theorem BaseFDA.put80 {B g : Nat} {o : ByteArray} {f e : Int} (a : Act) (v : Value) (h : BaseFDA B g o f e a) : BaseFDA B g o f e (a.put (some 80) v) := by
  obtain ⟨u, rfl⟩ := h
  exact ⟨fun i => if i = 80 then v else u i, by kernel_rfl⟩
theorem BaseFDA.put81 {B g : Nat} {o : ByteArray} {f e : Int} (a : Act) (v : Value) (h : BaseFDA B g o f e a) : BaseFDA B g o f e (a.put (some 81) v) := by
  obtain ⟨u, rfl⟩ := h
  exact ⟨fun i => if i = 81 then v else u i, by kernel_rfl⟩
/-- what each operation of the region FDB leaves -/
def vsFDB (o t4 : ByteArray) (e : Int) (m : Nat) : List (Option (Tmp × Value)) :=
  [some (63, .int .i64 e), some (64, .bool false), some (65, .bool false), some (66, .string o), some (67, .int .i64 (o.size : Nat)), some (68, .int .i64 (m : Nat)), some (69, .string t4), none, some (71, .string four0), some (72, .bool true), some (73, .bool true), some (74, .bool true), some (75, undef), some (76, undef), some (77, undef), some (78, undef), some (79, undef), some (80, undef), some (81, .bool true)]
/-- the frame while the region FDB runs -/
def BaseFDB (B g : Nat) (o : ByteArray) (f e : Int) (a : Act) : Prop := ∃ u : Nat → Value, a = ⟨#[u 0, u 1, .pointer (some ⟨B, 0, none⟩), .string o, .int .i64 f, u 5, u 6, u 7, u 8, .int .i64 (o.size : Nat), .pointer (some ⟨g, 0, none⟩), .int .i64 e, u 12, u 13, u 14, u 15, u 16, u 17, u 18, u 19, u 20, u 21, u 22, u 23, u 24, u 25, u 26, u 27, u 28, u 29, u 30, u 31, u 32, u 33, u 34, u 35, u 36, u 37, u 38, u 39, u 40, u 41, u 42, u 43, u 44, u 45, u 46, u 47, u 48, u 49, u 50, u 51, u 52, u 53, u 54, u 55, u 56, u 57, u 58, u 59, u 60, u 61, u 62, u 63, u 64, u 65, u 66, u 67, u 68, u 69, u 70, u 71, u 72, u 73, u 74, u 75, u 76, u 77, u 78, u 79, u 80, u 81, u 82, u 83, u 84, u 85, u 86, u 87, u 88, u 89], []⟩
theorem BaseFDB.of {B g : Nat} {o : ByteArray} {f e : Int} (arr : Array Value) (h : arr = #[arr.getD 0 undef, arr.getD 1 undef, .pointer (some ⟨B, 0, none⟩), .string o, .int .i64 f, arr.getD 5 undef, arr.getD 6 undef, arr.getD 7 undef, arr.getD 8 undef, .int .i64 (o.size : Nat), .pointer (some ⟨g, 0, none⟩), .int .i64 e, arr.getD 12 undef, arr.getD 13 undef, arr.getD 14 undef, arr.getD 15 undef, arr.getD 16 undef, arr.getD 17 undef, arr.getD 18 undef, arr.getD 19 undef, arr.getD 20 undef, arr.getD 21 undef, arr.getD 22 undef, arr.getD 23 undef, arr.getD 24 undef, arr.getD 25 undef, arr.getD 26 undef, arr.getD 27 undef, arr.getD 28 undef, arr.getD 29 undef, arr.getD 30 undef, arr.getD 31 undef, arr.getD 32 undef, arr.getD 33 undef, arr.getD 34 undef, arr.getD 35 undef, arr.getD 36 undef, arr.getD 37 undef, arr.getD 38 undef, arr.getD 39 undef, arr.getD 40 undef, arr.getD 41 undef, arr.getD 42 undef, arr.getD 43 undef, arr.getD 44 undef, arr.getD 45 undef, arr.getD 46 undef, arr.getD 47 undef, arr.getD 48 undef, arr.getD 49 undef, arr.getD 50 undef, arr.getD 51 undef, arr.getD 52 undef, arr.getD 53 undef, arr.getD 54 undef, arr.getD 55 undef, arr.getD 56 undef, arr.getD 57 undef, arr.getD 58 undef, arr.getD 59 undef, arr.getD 60 undef, arr.getD 61 undef, arr.getD 62 undef, arr.getD 63 undef, arr.getD 64 undef, arr.getD 65 undef, arr.getD 66 undef, arr.getD 67 undef, arr.getD 68 undef, arr.getD 69 undef, arr.getD 70 undef, arr.getD 71 undef, arr.getD 72 undef, arr.getD 73 undef, arr.getD 74 undef, arr.getD 75 undef, arr.getD 76 undef, arr.getD 77 undef, arr.getD 78 undef, arr.getD 79 undef, arr.getD 80 undef, arr.getD 81 undef, arr.getD 82 undef, arr.getD 83 undef, arr.getD 84 undef, arr.getD 85 undef, arr.getD 86 undef, arr.getD 87 undef, arr.getD 88 undef, arr.getD 89 undef]) : BaseFDB B g o f e ⟨arr, []⟩ := ⟨fun i => arr.getD i undef, by rw [← h]⟩
theorem BaseFDB.put63 {B g : Nat} {o : ByteArray} {f e : Int} (a : Act) (v : Value) (h : BaseFDB B g o f e a) : BaseFDB B g o f e (a.put (some 63) v) := by
  obtain ⟨u, rfl⟩ := h
  exact ⟨fun i => if i = 63 then v else u i, by kernel_rfl⟩
theorem BaseFDB.put64 {B g : Nat} {o : ByteArray} {f e : Int} (a : Act) (v : Value) (h : BaseFDB B g o f e a) : BaseFDB B g o f e (a.put (some 64) v) := by
  obtain ⟨u, rfl⟩ := h
  exact ⟨fun i => if i = 64 then v else u i, by kernel_rfl⟩
theorem BaseFDB.put65 {B g : Nat} {o : ByteArray} {f e : Int} (a : Act) (v : Value) (h : BaseFDB B g o f e a) : BaseFDB B g o f e (a.put (some 65) v) := by
  obtain ⟨u, rfl⟩ := h
  exact ⟨fun i => if i = 65 then v else u i, by kernel_rfl⟩
theorem BaseFDB.put66 {B g : Nat} {o : ByteArray} {f e : Int} (a : Act) (v : Value) (h : BaseFDB B g o f e a) : BaseFDB B g o f e (a.put (some 66) v) := by
  obtain ⟨u, rfl⟩ := h
  exact ⟨fun i => if i = 66 then v else u i, by kernel_rfl⟩
theorem BaseFDB.put67 {B g : Nat} {o : ByteArray} {f e : Int} (a : Act) (v : Value) (h : BaseFDB B g o f e a) : BaseFDB B g o f e (a.put (some 67) v) := by
  obtain ⟨u, rfl⟩ := h
  exact ⟨fun i => if i = 67 then v else u i, by kernel_rfl⟩
theorem BaseFDB.put68 {B g : Nat} {o : ByteArray} {f e : Int} (a : Act) (v : Value) (h : BaseFDB B g o f e a) : BaseFDB B g o f e (a.put (some 68) v) := by
  obtain ⟨u, rfl⟩ := h
  exact ⟨fun i => if i = 68 then v else u i, by kernel_rfl⟩
theorem BaseFDB.put69 {B g : Nat} {o : ByteArray} {f e : Int} (a : Act) (v : Value) (h : BaseFDB B g o f e a) : BaseFDB B g o f e (a.put (some 69) v) := by
  obtain ⟨u, rfl⟩ := h
  exact ⟨fun i => if i = 69 then v else u i, by kernel_rfl⟩
theorem BaseFDB.put70 {B g : Nat} {o : ByteArray} {f e : Int} (a : Act) (v : Value) (h : BaseFDB B g o f e a) : BaseFDB B g o f e (a.put (some 70) v) := by
  obtain ⟨u, rfl⟩ := h
  exact ⟨fun i => if i = 70 then v else u i, by kernel_rfl⟩
theorem BaseFDB.put71 {B g : Nat} {o : ByteArray} {f e : Int} (a : Act) (v : Value) (h : BaseFDB B g o f e a) : BaseFDB B g o f e (a.put (some 71) v) := by
  obtain ⟨u, rfl⟩ := h
  exact ⟨fun i => if i = 71 then v else u i, by kernel_rfl⟩
theorem BaseFDB.put72 {B g : Nat} {o : ByteArray} {f e : Int} (a : Act) (v : Value) (h : BaseFDB B g o f e a) : BaseFDB B g o f e (a.put (some 72) v) := by
  obtain ⟨u, rfl⟩ := h
  exact ⟨fun i => if i = 72 then v else u i, by kernel_rfl⟩
theorem BaseFDB.put73 {B g : Nat} {o : ByteArray} {f e : Int} (a : Act) (v : Value) (h : BaseFDB B g o f e a) : BaseFDB B g o f e (a.put (some 73) v) := by
  obtain ⟨u, rfl⟩ := h
  exact ⟨fun i => if i = 73 then v else u i, by kernel_rfl⟩
theorem BaseFDB.put74 {B g : Nat} {o : ByteArray} {f e : Int} (a : Act) (v : Value) (h : BaseFDB B g o f e a) : BaseFDB B g o f e (a.put (some 74) v) := by
  obtain ⟨u, rfl⟩ := h
  exact ⟨fun i => if i = 74 then v else u i, by kernel_rfl⟩
theorem BaseFDB.put75 {B g : Nat} {o : ByteArray} {f e : Int} (a : Act) (v : Value) (h : BaseFDB B g o f e a) : BaseFDB B g o f e (a.put (some 75) v) := by
  obtain ⟨u, rfl⟩ := h
  exact ⟨fun i => if i = 75 then v else u i, by kernel_rfl⟩
theorem BaseFDB.put76 {B g : Nat} {o : ByteArray} {f e : Int} (a : Act) (v : Value) (h : BaseFDB B g o f e a) : BaseFDB B g o f e (a.put (some 76) v) := by
  obtain ⟨u, rfl⟩ := h
  exact ⟨fun i => if i = 76 then v else u i, by kernel_rfl⟩
theorem BaseFDB.put77 {B g : Nat} {o : ByteArray} {f e : Int} (a : Act) (v : Value) (h : BaseFDB B g o f e a) : BaseFDB B g o f e (a.put (some 77) v) := by
  obtain ⟨u, rfl⟩ := h
  exact ⟨fun i => if i = 77 then v else u i, by kernel_rfl⟩
theorem BaseFDB.put78 {B g : Nat} {o : ByteArray} {f e : Int} (a : Act) (v : Value) (h : BaseFDB B g o f e a) : BaseFDB B g o f e (a.put (some 78) v) := by
  obtain ⟨u, rfl⟩ := h
  exact ⟨fun i => if i = 78 then v else u i, by kernel_rfl⟩
theorem BaseFDB.put79 {B g : Nat} {o : ByteArray} {f e : Int} (a : Act) (v : Value) (h : BaseFDB B g o f e a) : BaseFDB B g o f e (a.put (some 79) v) := by
  obtain ⟨u, rfl⟩ := h
  exact ⟨fun i => if i = 79 then v else u i, by kernel_rfl⟩
theorem BaseFDB.put80 {B g : Nat} {o : ByteArray} {f e : Int} (a : Act) (v : Value) (h : BaseFDB B g o f e a) : BaseFDB B g o f e (a.put (some 80) v) := by
  obtain ⟨u, rfl⟩ := h
  exact ⟨fun i => if i = 80 then v else u i, by kernel_rfl⟩
theorem BaseFDB.put81 {B g : Nat} {o : ByteArray} {f e : Int} (a : Act) (v : Value) (h : BaseFDB B g o f e a) : BaseFDB B g o f e (a.put (some 81) v) := by
  obtain ⟨u, rfl⟩ := h
  exact ⟨fun i => if i = 81 then v else u i, by kernel_rfl⟩
/-- what each operation of the region FDC leaves -/
def vsFDC (o t4 bd : ByteArray) (e : Int) (m : Nat) : List (Option (Tmp × Value)) :=
  [some (63, .int .i64 e), some (64, .bool false), some (65, .bool false), some (66, .string o), some (67, .int .i64 (o.size : Nat)), some (68, .int .i64 (m : Nat)), some (69, .string t4), none, some (71, .string four0), some (72, .bool false), some (73, .bool false), some (74, .bool false), some (75, .string o), some (76, .int .i64 (o.size : Nat)), some (77, .int .i64 (m : Nat)), some (78, .string bd), some (79, .bool false), some (80, .bool true), some (81, .bool true)]
/-- the frame while the region FDC runs -/
def BaseFDC (B g : Nat) (o : ByteArray) (f e : Int) (a : Act) : Prop := ∃ u : Nat → Value, a = ⟨#[u 0, u 1, .pointer (some ⟨B, 0, none⟩), .string o, .int .i64 f, u 5, u 6, u 7, u 8, .int .i64 (o.size : Nat), .pointer (some ⟨g, 0, none⟩), .int .i64 e, u 12, u 13, u 14, u 15, u 16, u 17, u 18, u 19, u 20, u 21, u 22, u 23, u 24, u 25, u 26, u 27, u 28, u 29, u 30, u 31, u 32, u 33, u 34, u 35, u 36, u 37, u 38, u 39, u 40, u 41, u 42, u 43, u 44, u 45, u 46, u 47, u 48, u 49, u 50, u 51, u 52, u 53, u 54, u 55, u 56, u 57, u 58, u 59, u 60, u 61, u 62, u 63, u 64, u 65, u 66, u 67, u 68, u 69, u 70, u 71, u 72, u 73, u 74, u 75, u 76, u 77, u 78, u 79, u 80, u 81, u 82, u 83, u 84, u 85, u 86, u 87, u 88, u 89], []⟩
theorem BaseFDC.of {B g : Nat} {o : ByteArray} {f e : Int} (arr : Array Value) (h : arr = #[arr.getD 0 undef, arr.getD 1 undef, .pointer (some ⟨B, 0, none⟩), .string o, .int .i64 f, arr.getD 5 undef, arr.getD 6 undef, arr.getD 7 undef, arr.getD 8 undef, .int .i64 (o.size : Nat), .pointer (some ⟨g, 0, none⟩), .int .i64 e, arr.getD 12 undef, arr.getD 13 undef, arr.getD 14 undef, arr.getD 15 undef, arr.getD 16 undef, arr.getD 17 undef, arr.getD 18 undef, arr.getD 19 undef, arr.getD 20 undef, arr.getD 21 undef, arr.getD 22 undef, arr.getD 23 undef, arr.getD 24 undef, arr.getD 25 undef, arr.getD 26 undef, arr.getD 27 undef, arr.getD 28 undef, arr.getD 29 undef, arr.getD 30 undef, arr.getD 31 undef, arr.getD 32 undef, arr.getD 33 undef, arr.getD 34 undef, arr.getD 35 undef, arr.getD 36 undef, arr.getD 37 undef, arr.getD 38 undef, arr.getD 39 undef, arr.getD 40 undef, arr.getD 41 undef, arr.getD 42 undef, arr.getD 43 undef, arr.getD 44 undef, arr.getD 45 undef, arr.getD 46 undef, arr.getD 47 undef, arr.getD 48 undef, arr.getD 49 undef, arr.getD 50 undef, arr.getD 51 undef, arr.getD 52 undef, arr.getD 53 undef, arr.getD 54 undef, arr.getD 55 undef, arr.getD 56 undef, arr.getD 57 undef, arr.getD 58 undef, arr.getD 59 undef, arr.getD 60 undef, arr.getD 61 undef, arr.getD 62 undef, arr.getD 63 undef, arr.getD 64 undef, arr.getD 65 undef, arr.getD 66 undef, arr.getD 67 undef, arr.getD 68 undef, arr.getD 69 undef, arr.getD 70 undef, arr.getD 71 undef, arr.getD 72 undef, arr.getD 73 undef, arr.getD 74 undef, arr.getD 75 undef, arr.getD 76 undef, arr.getD 77 undef, arr.getD 78 undef, arr.getD 79 undef, arr.getD 80 undef, arr.getD 81 undef, arr.getD 82 undef, arr.getD 83 undef, arr.getD 84 undef, arr.getD 85 undef, arr.getD 86 undef, arr.getD 87 undef, arr.getD 88 undef, arr.getD 89 undef]) : BaseFDC B g o f e ⟨arr, []⟩ := ⟨fun i => arr.getD i undef, by rw [← h]⟩
theorem BaseFDC.put63 {B g : Nat} {o : ByteArray} {f e : Int} (a : Act) (v : Value) (h : BaseFDC B g o f e a) : BaseFDC B g o f e (a.put (some 63) v) := by
  obtain ⟨u, rfl⟩ := h
  exact ⟨fun i => if i = 63 then v else u i, by kernel_rfl⟩
theorem BaseFDC.put64 {B g : Nat} {o : ByteArray} {f e : Int} (a : Act) (v : Value) (h : BaseFDC B g o f e a) : BaseFDC B g o f e (a.put (some 64) v) := by
  obtain ⟨u, rfl⟩ := h
  exact ⟨fun i => if i = 64 then v else u i, by kernel_rfl⟩
theorem BaseFDC.put65 {B g : Nat} {o : ByteArray} {f e : Int} (a : Act) (v : Value) (h : BaseFDC B g o f e a) : BaseFDC B g o f e (a.put (some 65) v) := by
  obtain ⟨u, rfl⟩ := h
  exact ⟨fun i => if i = 65 then v else u i, by kernel_rfl⟩
theorem BaseFDC.put66 {B g : Nat} {o : ByteArray} {f e : Int} (a : Act) (v : Value) (h : BaseFDC B g o f e a) : BaseFDC B g o f e (a.put (some 66) v) := by
  obtain ⟨u, rfl⟩ := h
  exact ⟨fun i => if i = 66 then v else u i, by kernel_rfl⟩
theorem BaseFDC.put67 {B g : Nat} {o : ByteArray} {f e : Int} (a : Act) (v : Value) (h : BaseFDC B g o f e a) : BaseFDC B g o f e (a.put (some 67) v) := by
  obtain ⟨u, rfl⟩ := h
  exact ⟨fun i => if i = 67 then v else u i, by kernel_rfl⟩
theorem BaseFDC.put68 {B g : Nat} {o : ByteArray} {f e : Int} (a : Act) (v : Value) (h : BaseFDC B g o f e a) : BaseFDC B g o f e (a.put (some 68) v) := by
  obtain ⟨u, rfl⟩ := h
  exact ⟨fun i => if i = 68 then v else u i, by kernel_rfl⟩
theorem BaseFDC.put69 {B g : Nat} {o : ByteArray} {f e : Int} (a : Act) (v : Value) (h : BaseFDC B g o f e a) : BaseFDC B g o f e (a.put (some 69) v) := by
  obtain ⟨u, rfl⟩ := h
  exact ⟨fun i => if i = 69 then v else u i, by kernel_rfl⟩
theorem BaseFDC.put70 {B g : Nat} {o : ByteArray} {f e : Int} (a : Act) (v : Value) (h : BaseFDC B g o f e a) : BaseFDC B g o f e (a.put (some 70) v) := by
  obtain ⟨u, rfl⟩ := h
  exact ⟨fun i => if i = 70 then v else u i, by kernel_rfl⟩
theorem BaseFDC.put71 {B g : Nat} {o : ByteArray} {f e : Int} (a : Act) (v : Value) (h : BaseFDC B g o f e a) : BaseFDC B g o f e (a.put (some 71) v) := by
  obtain ⟨u, rfl⟩ := h
  exact ⟨fun i => if i = 71 then v else u i, by kernel_rfl⟩
theorem BaseFDC.put72 {B g : Nat} {o : ByteArray} {f e : Int} (a : Act) (v : Value) (h : BaseFDC B g o f e a) : BaseFDC B g o f e (a.put (some 72) v) := by
  obtain ⟨u, rfl⟩ := h
  exact ⟨fun i => if i = 72 then v else u i, by kernel_rfl⟩
theorem BaseFDC.put73 {B g : Nat} {o : ByteArray} {f e : Int} (a : Act) (v : Value) (h : BaseFDC B g o f e a) : BaseFDC B g o f e (a.put (some 73) v) := by
  obtain ⟨u, rfl⟩ := h
  exact ⟨fun i => if i = 73 then v else u i, by kernel_rfl⟩
theorem BaseFDC.put74 {B g : Nat} {o : ByteArray} {f e : Int} (a : Act) (v : Value) (h : BaseFDC B g o f e a) : BaseFDC B g o f e (a.put (some 74) v) := by
  obtain ⟨u, rfl⟩ := h
  exact ⟨fun i => if i = 74 then v else u i, by kernel_rfl⟩
theorem BaseFDC.put75 {B g : Nat} {o : ByteArray} {f e : Int} (a : Act) (v : Value) (h : BaseFDC B g o f e a) : BaseFDC B g o f e (a.put (some 75) v) := by
  obtain ⟨u, rfl⟩ := h
  exact ⟨fun i => if i = 75 then v else u i, by kernel_rfl⟩
theorem BaseFDC.put76 {B g : Nat} {o : ByteArray} {f e : Int} (a : Act) (v : Value) (h : BaseFDC B g o f e a) : BaseFDC B g o f e (a.put (some 76) v) := by
  obtain ⟨u, rfl⟩ := h
  exact ⟨fun i => if i = 76 then v else u i, by kernel_rfl⟩
theorem BaseFDC.put77 {B g : Nat} {o : ByteArray} {f e : Int} (a : Act) (v : Value) (h : BaseFDC B g o f e a) : BaseFDC B g o f e (a.put (some 77) v) := by
  obtain ⟨u, rfl⟩ := h
  exact ⟨fun i => if i = 77 then v else u i, by kernel_rfl⟩
theorem BaseFDC.put78 {B g : Nat} {o : ByteArray} {f e : Int} (a : Act) (v : Value) (h : BaseFDC B g o f e a) : BaseFDC B g o f e (a.put (some 78) v) := by
  obtain ⟨u, rfl⟩ := h
  exact ⟨fun i => if i = 78 then v else u i, by kernel_rfl⟩
theorem BaseFDC.put79 {B g : Nat} {o : ByteArray} {f e : Int} (a : Act) (v : Value) (h : BaseFDC B g o f e a) : BaseFDC B g o f e (a.put (some 79) v) := by
  obtain ⟨u, rfl⟩ := h
  exact ⟨fun i => if i = 79 then v else u i, by kernel_rfl⟩
theorem BaseFDC.put80 {B g : Nat} {o : ByteArray} {f e : Int} (a : Act) (v : Value) (h : BaseFDC B g o f e a) : BaseFDC B g o f e (a.put (some 80) v) := by
  obtain ⟨u, rfl⟩ := h
  exact ⟨fun i => if i = 80 then v else u i, by kernel_rfl⟩
theorem BaseFDC.put81 {B g : Nat} {o : ByteArray} {f e : Int} (a : Act) (v : Value) (h : BaseFDC B g o f e a) : BaseFDC B g o f e (a.put (some 81) v) := by
  obtain ⟨u, rfl⟩ := h
  exact ⟨fun i => if i = 81 then v else u i, by kernel_rfl⟩
/-- what each operation of the region FDD leaves -/
def vsFDD (o t4 bd : ByteArray) (e : Int) (m : Nat) : List (Option (Tmp × Value)) :=
  [some (63, .int .i64 e), some (64, .bool false), some (65, .bool false), some (66, .string o), some (67, .int .i64 (o.size : Nat)), some (68, .int .i64 (m : Nat)), some (69, .string t4), none, some (71, .string four0), some (72, .bool false), some (73, .bool false), some (74, .bool false), some (75, .string o), some (76, .int .i64 (o.size : Nat)), some (77, .int .i64 (m : Nat)), some (78, .string bd), some (79, .bool true), some (80, .bool false), some (81, .bool false)]
/-- the frame while the region FDD runs -/
def BaseFDD (B g : Nat) (o : ByteArray) (f e : Int) (a : Act) : Prop := ∃ u : Nat → Value, a = ⟨#[u 0, u 1, .pointer (some ⟨B, 0, none⟩), .string o, .int .i64 f, u 5, u 6, u 7, u 8, .int .i64 (o.size : Nat), .pointer (some ⟨g, 0, none⟩), .int .i64 e, u 12, u 13, u 14, u 15, u 16, u 17, u 18, u 19, u 20, u 21, u 22, u 23, u 24, u 25, u 26, u 27, u 28, u 29, u 30, u 31, u 32, u 33, u 34, u 35, u 36, u 37, u 38, u 39, u 40, u 41, u 42, u 43, u 44, u 45, u 46, u 47, u 48, u 49, u 50, u 51, u 52, u 53, u 54, u 55, u 56, u 57, u 58, u 59, u 60, u 61, u 62, u 63, u 64, u 65, u 66, u 67, u 68, u 69, u 70, u 71, u 72, u 73, u 74, u 75, u 76, u 77, u 78, u 79, u 80, u 81, u 82, u 83, u 84, u 85, u 86, u 87, u 88, u 89], []⟩
theorem BaseFDD.of {B g : Nat} {o : ByteArray} {f e : Int} (arr : Array Value) (h : arr = #[arr.getD 0 undef, arr.getD 1 undef, .pointer (some ⟨B, 0, none⟩), .string o, .int .i64 f, arr.getD 5 undef, arr.getD 6 undef, arr.getD 7 undef, arr.getD 8 undef, .int .i64 (o.size : Nat), .pointer (some ⟨g, 0, none⟩), .int .i64 e, arr.getD 12 undef, arr.getD 13 undef, arr.getD 14 undef, arr.getD 15 undef, arr.getD 16 undef, arr.getD 17 undef, arr.getD 18 undef, arr.getD 19 undef, arr.getD 20 undef, arr.getD 21 undef, arr.getD 22 undef, arr.getD 23 undef, arr.getD 24 undef, arr.getD 25 undef, arr.getD 26 undef, arr.getD 27 undef, arr.getD 28 undef, arr.getD 29 undef, arr.getD 30 undef, arr.getD 31 undef, arr.getD 32 undef, arr.getD 33 undef, arr.getD 34 undef, arr.getD 35 undef, arr.getD 36 undef, arr.getD 37 undef, arr.getD 38 undef, arr.getD 39 undef, arr.getD 40 undef, arr.getD 41 undef, arr.getD 42 undef, arr.getD 43 undef, arr.getD 44 undef, arr.getD 45 undef, arr.getD 46 undef, arr.getD 47 undef, arr.getD 48 undef, arr.getD 49 undef, arr.getD 50 undef, arr.getD 51 undef, arr.getD 52 undef, arr.getD 53 undef, arr.getD 54 undef, arr.getD 55 undef, arr.getD 56 undef, arr.getD 57 undef, arr.getD 58 undef, arr.getD 59 undef, arr.getD 60 undef, arr.getD 61 undef, arr.getD 62 undef, arr.getD 63 undef, arr.getD 64 undef, arr.getD 65 undef, arr.getD 66 undef, arr.getD 67 undef, arr.getD 68 undef, arr.getD 69 undef, arr.getD 70 undef, arr.getD 71 undef, arr.getD 72 undef, arr.getD 73 undef, arr.getD 74 undef, arr.getD 75 undef, arr.getD 76 undef, arr.getD 77 undef, arr.getD 78 undef, arr.getD 79 undef, arr.getD 80 undef, arr.getD 81 undef, arr.getD 82 undef, arr.getD 83 undef, arr.getD 84 undef, arr.getD 85 undef, arr.getD 86 undef, arr.getD 87 undef, arr.getD 88 undef, arr.getD 89 undef]) : BaseFDD B g o f e ⟨arr, []⟩ := ⟨fun i => arr.getD i undef, by rw [← h]⟩
theorem BaseFDD.put63 {B g : Nat} {o : ByteArray} {f e : Int} (a : Act) (v : Value) (h : BaseFDD B g o f e a) : BaseFDD B g o f e (a.put (some 63) v) := by
  obtain ⟨u, rfl⟩ := h
  exact ⟨fun i => if i = 63 then v else u i, by kernel_rfl⟩
theorem BaseFDD.put64 {B g : Nat} {o : ByteArray} {f e : Int} (a : Act) (v : Value) (h : BaseFDD B g o f e a) : BaseFDD B g o f e (a.put (some 64) v) := by
  obtain ⟨u, rfl⟩ := h
  exact ⟨fun i => if i = 64 then v else u i, by kernel_rfl⟩
theorem BaseFDD.put65 {B g : Nat} {o : ByteArray} {f e : Int} (a : Act) (v : Value) (h : BaseFDD B g o f e a) : BaseFDD B g o f e (a.put (some 65) v) := by
  obtain ⟨u, rfl⟩ := h
  exact ⟨fun i => if i = 65 then v else u i, by kernel_rfl⟩
theorem BaseFDD.put66 {B g : Nat} {o : ByteArray} {f e : Int} (a : Act) (v : Value) (h : BaseFDD B g o f e a) : BaseFDD B g o f e (a.put (some 66) v) := by
  obtain ⟨u, rfl⟩ := h
  exact ⟨fun i => if i = 66 then v else u i, by kernel_rfl⟩
theorem BaseFDD.put67 {B g : Nat} {o : ByteArray} {f e : Int} (a : Act) (v : Value) (h : BaseFDD B g o f e a) : BaseFDD B g o f e (a.put (some 67) v) := by
  obtain ⟨u, rfl⟩ := h
  exact ⟨fun i => if i = 67 then v else u i, by kernel_rfl⟩
theorem BaseFDD.put68 {B g : Nat} {o : ByteArray} {f e : Int} (a : Act) (v : Value) (h : BaseFDD B g o f e a) : BaseFDD B g o f e (a.put (some 68) v) := by
  obtain ⟨u, rfl⟩ := h
  exact ⟨fun i => if i = 68 then v else u i, by kernel_rfl⟩
theorem BaseFDD.put69 {B g : Nat} {o : ByteArray} {f e : Int} (a : Act) (v : Value) (h : BaseFDD B g o f e a) : BaseFDD B g o f e (a.put (some 69) v) := by
  obtain ⟨u, rfl⟩ := h
  exact ⟨fun i => if i = 69 then v else u i, by kernel_rfl⟩
theorem BaseFDD.put70 {B g : Nat} {o : ByteArray} {f e : Int} (a : Act) (v : Value) (h : BaseFDD B g o f e a) : BaseFDD B g o f e (a.put (some 70) v) := by
  obtain ⟨u, rfl⟩ := h
  exact ⟨fun i => if i = 70 then v else u i, by kernel_rfl⟩
theorem BaseFDD.put71 {B g : Nat} {o : ByteArray} {f e : Int} (a : Act) (v : Value) (h : BaseFDD B g o f e a) : BaseFDD B g o f e (a.put (some 71) v) := by
  obtain ⟨u, rfl⟩ := h
  exact ⟨fun i => if i = 71 then v else u i, by kernel_rfl⟩
theorem BaseFDD.put72 {B g : Nat} {o : ByteArray} {f e : Int} (a : Act) (v : Value) (h : BaseFDD B g o f e a) : BaseFDD B g o f e (a.put (some 72) v) := by
  obtain ⟨u, rfl⟩ := h
  exact ⟨fun i => if i = 72 then v else u i, by kernel_rfl⟩
theorem BaseFDD.put73 {B g : Nat} {o : ByteArray} {f e : Int} (a : Act) (v : Value) (h : BaseFDD B g o f e a) : BaseFDD B g o f e (a.put (some 73) v) := by
  obtain ⟨u, rfl⟩ := h
  exact ⟨fun i => if i = 73 then v else u i, by kernel_rfl⟩
theorem BaseFDD.put74 {B g : Nat} {o : ByteArray} {f e : Int} (a : Act) (v : Value) (h : BaseFDD B g o f e a) : BaseFDD B g o f e (a.put (some 74) v) := by
  obtain ⟨u, rfl⟩ := h
  exact ⟨fun i => if i = 74 then v else u i, by kernel_rfl⟩
theorem BaseFDD.put75 {B g : Nat} {o : ByteArray} {f e : Int} (a : Act) (v : Value) (h : BaseFDD B g o f e a) : BaseFDD B g o f e (a.put (some 75) v) := by
  obtain ⟨u, rfl⟩ := h
  exact ⟨fun i => if i = 75 then v else u i, by kernel_rfl⟩
theorem BaseFDD.put76 {B g : Nat} {o : ByteArray} {f e : Int} (a : Act) (v : Value) (h : BaseFDD B g o f e a) : BaseFDD B g o f e (a.put (some 76) v) := by
  obtain ⟨u, rfl⟩ := h
  exact ⟨fun i => if i = 76 then v else u i, by kernel_rfl⟩
theorem BaseFDD.put77 {B g : Nat} {o : ByteArray} {f e : Int} (a : Act) (v : Value) (h : BaseFDD B g o f e a) : BaseFDD B g o f e (a.put (some 77) v) := by
  obtain ⟨u, rfl⟩ := h
  exact ⟨fun i => if i = 77 then v else u i, by kernel_rfl⟩
theorem BaseFDD.put78 {B g : Nat} {o : ByteArray} {f e : Int} (a : Act) (v : Value) (h : BaseFDD B g o f e a) : BaseFDD B g o f e (a.put (some 78) v) := by
  obtain ⟨u, rfl⟩ := h
  exact ⟨fun i => if i = 78 then v else u i, by kernel_rfl⟩
theorem BaseFDD.put79 {B g : Nat} {o : ByteArray} {f e : Int} (a : Act) (v : Value) (h : BaseFDD B g o f e a) : BaseFDD B g o f e (a.put (some 79) v) := by
  obtain ⟨u, rfl⟩ := h
  exact ⟨fun i => if i = 79 then v else u i, by kernel_rfl⟩
theorem BaseFDD.put80 {B g : Nat} {o : ByteArray} {f e : Int} (a : Act) (v : Value) (h : BaseFDD B g o f e a) : BaseFDD B g o f e (a.put (some 80) v) := by
  obtain ⟨u, rfl⟩ := h
  exact ⟨fun i => if i = 80 then v else u i, by kernel_rfl⟩
theorem BaseFDD.put81 {B g : Nat} {o : ByteArray} {f e : Int} (a : Act) (v : Value) (h : BaseFDD B g o f e a) : BaseFDD B g o f e (a.put (some 81) v) := by
  obtain ⟨u, rfl⟩ := h
  exact ⟨fun i => if i = 81 then v else u i, by kernel_rfl⟩
/-- what each operation of the region FP leaves -/
def vsFP (o dt : ByteArray) (f k' l' q' e' : Int) (m8 : Nat) : List (Option (Tmp × Value)) :=
  [some (83, .int .i64 f), some (84, .agg (ta k' l' q' e')), some (85, .string o), some (86, .int .i64 (o.size : Nat)), some (87, .int .i64 (m8 : Nat)), some (88, .string dt), some (89, .agg (pv f k' l' q' e' dt)), none]
/-- the frame while the region FP runs -/
def BaseFP (B g : Nat) (o : ByteArray) (f : Int) (a : Act) : Prop := ∃ u : Nat → Value, a = ⟨#[u 0, u 1, .pointer (some ⟨B, 0, none⟩), .string o, .int .i64 f, u 5, u 6, u 7, u 8, .int .i64 (o.size : Nat), .pointer (some ⟨g, 0, none⟩), u 11, u 12, u 13, u 14, u 15, u 16, u 17, u 18, u 19, u 20, u 21, u 22, u 23, u 24, u 25, u 26, u 27, u 28, u 29, u 30, u 31, u 32, u 33, u 34, u 35, u 36, u 37, u 38, u 39, u 40, u 41, u 42, u 43, u 44, u 45, u 46, u 47, u 48, u 49, u 50, u 51, u 52, u 53, u 54, u 55, u 56, u 57, u 58, u 59, u 60, u 61, u 62, u 63, u 64, u 65, u 66, u 67, u 68, u 69, u 70, u 71, u 72, u 73, u 74, u 75, u 76, u 77, u 78, u 79, u 80, u 81, u 82, u 83, u 84, u 85, u 86, u 87, u 88, u 89], []⟩
theorem BaseFP.of {B g : Nat} {o : ByteArray} {f : Int} (arr : Array Value) (h : arr = #[arr.getD 0 undef, arr.getD 1 undef, .pointer (some ⟨B, 0, none⟩), .string o, .int .i64 f, arr.getD 5 undef, arr.getD 6 undef, arr.getD 7 undef, arr.getD 8 undef, .int .i64 (o.size : Nat), .pointer (some ⟨g, 0, none⟩), arr.getD 11 undef, arr.getD 12 undef, arr.getD 13 undef, arr.getD 14 undef, arr.getD 15 undef, arr.getD 16 undef, arr.getD 17 undef, arr.getD 18 undef, arr.getD 19 undef, arr.getD 20 undef, arr.getD 21 undef, arr.getD 22 undef, arr.getD 23 undef, arr.getD 24 undef, arr.getD 25 undef, arr.getD 26 undef, arr.getD 27 undef, arr.getD 28 undef, arr.getD 29 undef, arr.getD 30 undef, arr.getD 31 undef, arr.getD 32 undef, arr.getD 33 undef, arr.getD 34 undef, arr.getD 35 undef, arr.getD 36 undef, arr.getD 37 undef, arr.getD 38 undef, arr.getD 39 undef, arr.getD 40 undef, arr.getD 41 undef, arr.getD 42 undef, arr.getD 43 undef, arr.getD 44 undef, arr.getD 45 undef, arr.getD 46 undef, arr.getD 47 undef, arr.getD 48 undef, arr.getD 49 undef, arr.getD 50 undef, arr.getD 51 undef, arr.getD 52 undef, arr.getD 53 undef, arr.getD 54 undef, arr.getD 55 undef, arr.getD 56 undef, arr.getD 57 undef, arr.getD 58 undef, arr.getD 59 undef, arr.getD 60 undef, arr.getD 61 undef, arr.getD 62 undef, arr.getD 63 undef, arr.getD 64 undef, arr.getD 65 undef, arr.getD 66 undef, arr.getD 67 undef, arr.getD 68 undef, arr.getD 69 undef, arr.getD 70 undef, arr.getD 71 undef, arr.getD 72 undef, arr.getD 73 undef, arr.getD 74 undef, arr.getD 75 undef, arr.getD 76 undef, arr.getD 77 undef, arr.getD 78 undef, arr.getD 79 undef, arr.getD 80 undef, arr.getD 81 undef, arr.getD 82 undef, arr.getD 83 undef, arr.getD 84 undef, arr.getD 85 undef, arr.getD 86 undef, arr.getD 87 undef, arr.getD 88 undef, arr.getD 89 undef]) : BaseFP B g o f ⟨arr, []⟩ := ⟨fun i => arr.getD i undef, by rw [← h]⟩
theorem BaseFP.put83 {B g : Nat} {o : ByteArray} {f : Int} (a : Act) (v : Value) (h : BaseFP B g o f a) : BaseFP B g o f (a.put (some 83) v) := by
  obtain ⟨u, rfl⟩ := h
  exact ⟨fun i => if i = 83 then v else u i, by kernel_rfl⟩
theorem BaseFP.put84 {B g : Nat} {o : ByteArray} {f : Int} (a : Act) (v : Value) (h : BaseFP B g o f a) : BaseFP B g o f (a.put (some 84) v) := by
  obtain ⟨u, rfl⟩ := h
  exact ⟨fun i => if i = 84 then v else u i, by kernel_rfl⟩
theorem BaseFP.put85 {B g : Nat} {o : ByteArray} {f : Int} (a : Act) (v : Value) (h : BaseFP B g o f a) : BaseFP B g o f (a.put (some 85) v) := by
  obtain ⟨u, rfl⟩ := h
  exact ⟨fun i => if i = 85 then v else u i, by kernel_rfl⟩
theorem BaseFP.put86 {B g : Nat} {o : ByteArray} {f : Int} (a : Act) (v : Value) (h : BaseFP B g o f a) : BaseFP B g o f (a.put (some 86) v) := by
  obtain ⟨u, rfl⟩ := h
  exact ⟨fun i => if i = 86 then v else u i, by kernel_rfl⟩
theorem BaseFP.put87 {B g : Nat} {o : ByteArray} {f : Int} (a : Act) (v : Value) (h : BaseFP B g o f a) : BaseFP B g o f (a.put (some 87) v) := by
  obtain ⟨u, rfl⟩ := h
  exact ⟨fun i => if i = 87 then v else u i, by kernel_rfl⟩
theorem BaseFP.put88 {B g : Nat} {o : ByteArray} {f : Int} (a : Act) (v : Value) (h : BaseFP B g o f a) : BaseFP B g o f (a.put (some 88) v) := by
  obtain ⟨u, rfl⟩ := h
  exact ⟨fun i => if i = 88 then v else u i, by kernel_rfl⟩
theorem BaseFP.put89 {B g : Nat} {o : ByteArray} {f : Int} (a : Act) (v : Value) (h : BaseFP B g o f a) : BaseFP B g o f (a.put (some 89) v) := by
  obtain ⟨u, rfl⟩ := h
  exact ⟨fun i => if i = 89 then v else u i, by kernel_rfl⟩

end Go.Proofs.YtlacmfacigfioaaDoor
