/- The walk of the law CrcLinear. -/
import Derived.Test.YtmfonbpdjphikaaDoorCrcL3
import Derived.Deep.AppendLies
import Derived.Deep.RegionLaw
import Derived.BigQuiet
import Derived.Deep.QuietTactic
import Derived.WalkLawsBesides
namespace Go.Proofs.YtmfonbpdjphikaaDoor
open Go.RowKit

/-- three texts put together, so many bytes of them, as numbers -/
def x3 (x y z : ByteArray) : Nat → List UInt8
  | 0 => []
  | k + 1 => x3 x y z k ++ [UInt8.ofNat (((bs x).getD k 0).toNat ^^^ ((bs y).getD k 0).toNat ^^^ ((bs z).getD k 0).toNat)]
theorem x3_length (x y z : ByteArray) (k : Nat) : (x3 x y z k).length = k := by
  induction k with
  | zero => rfl
  | succ k ih => simp [x3, ih]
theorem xor3_lt (a b c : UInt8) : a.toNat ^^^ b.toNat ^^^ c.toNat < 256 :=
  Nat.xor_lt_two_pow (n := 8) (Nat.xor_lt_two_pow (n := 8) a.toNat_lt b.toNat_lt) c.toNat_lt
theorem numN_snoc (l : List UInt8) (b : UInt8) : numN (l ++ [b]) = numN l ^^^ 2 ^ (8 * l.length) * b.toNat := by
  rw [numN_append, add_xor _ _ _ (numN_lt l)]
  simp [numN]
theorem take_bs (x : ByteArray) (k : Nat) (h : k < x.size) : (bs x).take (k + 1) = (bs x).take k ++ [(bs x).getD k 0] := by
  rw [List.take_succ_eq_append_getElem (by rw [bs_length]; exact h)]
  congr 2
  simp [List.getD, bs, h]
theorem numN_x3 (x y z : ByteArray) : ∀ k, k ≤ x.size → k ≤ y.size → k ≤ z.size → numN (x3 x y z k) = numN ((bs x).take k) ^^^ numN ((bs y).take k) ^^^ numN ((bs z).take k) := by
  intro k
  induction k with
  | zero => intro _ _ _; simp [x3, numN]
  | succ k ih =>
    intro hx hy hz
    have h := ih (by omega) (by omega) (by omega)
    rw [take_bs x k (by omega), take_bs y k (by omega), take_bs z k (by omega)]
    simp only [x3]
    rw [numN_snoc, numN_snoc, numN_snoc, numN_snoc, h, x3_length, List.length_take, List.length_take, List.length_take, bs_length, bs_length, bs_length,
      show min k x.size = k by omega, show min k y.size = k by omega, show min k z.size = k by omega, UInt8.toNat_ofNat', Nat.mod_eq_of_lt (xor3_lt _ _ _), mul_xor, mul_xor]
    generalize numN ((bs x).take k) = p
    generalize numN ((bs y).take k) = q
    generalize numN ((bs z).take k) = r
    generalize 2 ^ (8 * k) * ((bs x).getD k 0).toNat = p'
    generalize 2 ^ (8 * k) * ((bs y).getD k 0).toNat = q'
    generalize 2 ^ (8 * k) * ((bs z).getD k 0).toNat = r'
    apply Nat.eq_of_testBit_eq; intro i
    simp only [Nat.testBit_xor]
    cases p.testBit i <;> cases q.testBit i <;> cases r.testBit i <;> cases p'.testBit i <;> cases q'.testBit i <;> cases r'.testBit i <;> rfl
theorem sum_three (x y z : ByteArray) (n : Nat) (hx : x.size = n) (hy : y.size = n) (hz : z.size = n) :
    sumN (x3 x y z n) = sumN (bs x) ^^^ sumN (bs y) ^^^ sumN (bs z) := by
  have h := numN_x3 x y z n (by omega) (by omega) (by omega)
  rw [List.take_of_length_le (by rw [bs_length]; omega), List.take_of_length_le (by rw [bs_length]; omega), List.take_of_length_le (by rw [bs_length]; omega)] at h
  unfold sumN
  rw [more_three (bs x) (bs y) (bs z) (x3 x y z n) ones32 (by rw [bs_length, bs_length]; omega) (by rw [bs_length, bs_length]; omega) (by rw [bs_length, x3_length]; omega) h]
  generalize more ones32 (bs x) = p
  generalize more ones32 (bs y) = q
  generalize more ones32 (bs z) = r
  apply Nat.eq_of_testBit_eq; intro i
  simp only [Nat.testBit_xor]
  cases p.testBit i <;> cases q.testBit i <;> cases r.testBit i <;> cases ones32.testBit i <;> rfl
theorem xor_u8_nat (c d : Nat) (hc : c < 256) (hd : d < 256) : bits .xor .u8 (c : Int) (d : Int) = ((c ^^^ d : Nat) : Int) := by
  have hx : c ^^^ d < 2 ^ 8 := Nat.xor_lt_two_pow (by omega) (by omega)
  have h1 : (BitVec.ofInt 8 (c : Int)).toNat = c := by
    rw [BitVec.ofInt_natCast, BitVec.toNat_ofNat]; exact Nat.mod_eq_of_lt (by omega)
  have h2 : (BitVec.ofInt 8 (d : Int)).toNat = d := by
    rw [BitVec.ofInt_natCast, BitVec.toNat_ofNat]; exact Nat.mod_eq_of_lt (by omega)
  show IntKind.u8.wrap ((BitVec.ofInt 8 (c : Int) ^^^ BitVec.ofInt 8 (d : Int)).toNat : Int) = _
  rw [BitVec.toNat_xor, h1, h2, IntKind.wrap_u8]
  omega
theorem get_bs (x : ByteArray) (k : Nat) (h : k < x.size) : ((bs x).getD k 0) = x[k] := by simp [List.getD, bs, h]; rfl
theorem rel_three {w wr w1 : World} {B k : Nat} {v' : Value} {x y z : ByteArray} {c : Nat} (ho : w1.ownsRow B 5 1 v' (k + 1) ((ints (x3 x y z k)).map (Value.int .u8) ++ [.int .u8 (c : Int)])) (hc : c = ((bs x).getD k 0).toNat ^^^ ((bs y).getD k 0).toNat ^^^ ((bs z).getD k 0).toNat) (hb : Below B w wr) (hg : Below B wr w1) :
    w1.ownsRow B 5 1 v' (k + 1) ((ints (x3 x y z (k + 1))).map (Value.int .u8)) ∧ Below B w w1 := by
  refine ⟨?_, hb.trans hg⟩
  have hl : c < 256 := by rw [hc]; exact xor3_lt _ _ _
  have e : ints (x3 x y z (k + 1)) = ints (x3 x y z k) ++ [(c : Int)] := by
    unfold ints; simp only [x3]
    rw [List.map_append, ← hc]
    simp [UInt8.toNat_ofNat', Nat.mod_eq_of_lt hl]
  rw [e, List.map_append]; exact ho

theorem app_below {wr W0 w5 : World} {B n : Nat} {e : TypeId} {v : Value} {xs : List Value} (h : wr.ownsRow B e 1 v n xs) (hB : B ≤ wr.heap.size) (h0 : Below B wr W0) (hg : W0.grownBy w5 v.ownBlock) : Below B wr w5 :=
  h0.grown hg (Nat.le_trans hB h0.size) fun k hk => by
    rcases h.2 with ⟨hv, _⟩ | ⟨g, cap, cur, hv, hb, _⟩
    · subst hv; cases hk
    · subst hv
      have hk2 : some g = some k := hk
      cases hk2; exact hb

set_option maxHeartbeats 1600000 in
set_option maxRecDepth 100000 in
theorem linear_in (a b c : ByteArray) (w : World) (_ha : (a.size : Int) ≤ 9223372036854775807) (_hb : (b.size : Int) ≤ 9223372036854775807) (_hc : (c.size : Int) ≤ 9223372036854775807)
    (n : Nat) (hn : min a.size (min b.size c.size) = n) (hn2 : n ≤ 1000) (hT : TabAt w) (hg : 0 < w.heap.size) :
    Calls Tryd.prog 5 #[.agg #[.string a, .string b, .string c]] w fun e w' => e = .returned (.bool true) ∧ Below w.heap.size w w' := by
  obtain ⟨i0, hi, hz0, hz1, hz2'⟩ := info_parts Tryd.infoU8
  have HT := Lib.hid hT
  have hcases : (b.size < a.size ∧ c.size < b.size ∧ c.size = n) ∨ (b.size < a.size ∧ b.size ≤ c.size ∧ b.size = n) ∨ (a.size ≤ b.size ∧ c.size < a.size ∧ c.size = n) ∨ (a.size ≤ b.size ∧ a.size ≤ c.size ∧ a.size = n) := by omega
  have hna : n ≤ a.size := by omega
  have hnb : n ≤ b.size := by omega
  have hnc : n ≤ c.size := by omega
  clear hT hn
  rcases hcases with ⟨h1, h2, h3⟩ | ⟨h1, h2, h3⟩ | ⟨h1, h2, h3⟩ | ⟨h1, h2, h3⟩
  all_goals
    go_enter Tryd.func5, Tryd.ntmps5
    go_wp2_with fail
    have hb0 : Below w.heap.size w (w.alloc (.cells #[.string a, .string b, .string c] 30)) := (Below.refl _ _).alloc (Nat.le_refl _) _
    refine (works_any _ (HT.out.below hb0 hg) (by simp)).mono ?_
    rintro e w1 ⟨rfl, hb1⟩
    have hz : w.heap.size < w1.heap.size := by have := hb1.size; simp at this; omega
    have c0 : w1.cell? ⟨w.heap.size, 0, none⟩ = some (.string a) := by rw [hb1.cell (p := ⟨w.heap.size, 0, none⟩) (by simp), World.cell?_alloc_new]; rfl
    have c1 : w1.cell? ⟨w.heap.size, 1, none⟩ = some (.string b) := by rw [hb1.cell (p := ⟨w.heap.size, 1, none⟩) (by simp), World.cell?_alloc_new]; rfl
    have c2 : w1.cell? ⟨w.heap.size, 2, none⟩ = some (.string c) := by rw [hb1.cell (p := ⟨w.heap.size, 2, none⟩) (by simp), World.cell?_alloc_new]; rfl
    have HB1 : Hid (Below w.heap.size w w1) := hb0.trans (hb1.mono (by simp))
    clear hb0 hb1
    go_wp2_with fail
    go_region
    have hx : (a.extract 0 n).size = n := by rw [ByteArray.size_extract]; omega
    have hy : (b.extract 0 n).size = n := by rw [ByteArray.size_extract]; omega
    have hzz : (c.extract 0 n).size = n := by rw [ByteArray.size_extract]; omega
    generalize a.extract 0 n = x at *
    generalize b.extract 0 n = y at *
    generalize c.extract 0 n = z at *
    have HB2 : Hid (Below w.heap.size w w1.drew) := HB1.out.drew
    have hz2 : w.heap.size < w1.drew.heap.size := hz
    generalize w1.drew = w2 at *
    clear HB1 hz c0 c1 c2 h1 h2 h3
    have HS := Lib.hid (sum_three x y z n hx hy hzz)
    have HSX := Lib.hid (sumN_lt (bs x))
    have HSY := Lib.hid (sumN_lt (bs y))
    have HSZ := Lib.hid (sumN_lt (bs z))
    go_wp2
    go_loopw [7, 36] (fun v i wr => ∃ k : Nat, k ≤ n ∧ i = .int .i64 k ∧ wr.ownsRow w2.heap.size 5 1 v k ((ints (x3 x y z k)).map (Value.int .u8)) ∧ Below w2.heap.size w2 wr) (fun _ i _ => n - (intOf i).toNat)
    case atStart => exact ⟨0, by omega, rfl, ⟨rfl, Or.inl ⟨rfl, rfl⟩⟩, Below.refl _ _⟩
    case round =>
      obtain ⟨k, hk, rfl, hown, hb⟩ := hrel
      by_cases hlt : k < n
      · have hkx : k < x.size := by omega
        have hky : k < y.size := by omega
        have hkz : k < z.size := by omega
        have G1 : Hid (((bs x).getD k 0) = x[k]) := get_bs x k hkx
        have G2 : Hid (((bs y).getD k 0) = y[k]) := get_bs y k hky
        have G3 : Hid (((bs z).getD k 0) = z[k]) := get_bs z k hkz
        have HO := Lib.hid hown.drew
        have HO0 := Lib.hid hown
        have HBk := Lib.hid hb
        have hwz := hb.size
        obtain ⟨d, hd⟩ : ∃ d, x[k].toNat ^^^ y[k].toNat = d := ⟨_, rfl⟩
        obtain ⟨e, he⟩ : ∃ e, d ^^^ z[k].toNat = e := ⟨_, rfl⟩
        have hd256 : d < 256 := by rw [← hd]; exact Nat.xor_lt_two_pow (n := 8) x[k].toNat_lt y[k].toNat_lt
        have e1 := xor_u8_nat x[k].toNat y[k].toNat x[k].toNat_lt y[k].toNat_lt
        have e2 := xor_u8_nat d z[k].toNat hd256 z[k].toNat_lt
        rw [hd] at e1
        rw [he] at e2
        have HE : Hid (e = ((bs x).getD k 0).toNat ^^^ ((bs y).getD k 0).toNat ^^^ ((bs z).getD k 0).toNat) := by rw [G1.out, G2.out, G3.out, hd, he]; rfl
        clear hown hb hd he hd256
        go_wp2
        go_region_law (refine step_append_lies _ rfl (.tmp 39) (.tmp 51) 31 rfl w2.heap.size 5 i0 (.int .u8 0) 1 1 Tryd.underlying31 hi hz0 hz1 hz2' rfl (by decide) u7 k _ (by simp [Act.eval]) (by first | exact HO.out.alloc _ | exact (HO0.out.alloc _).drew) ⟨wr.heap.size, 0, none⟩ 1 1 [.int .u8 (e : Int)] (by simp [Act.eval]) rfl (by exact cell_one_new _ _ _) (by intro u hu; simp at hu; subst hu; rfl) (by decide) (by unfold maxLen; omega) (by omega) (by simp; omega) _ rfl ?_; intro g cap w5 hown1 hgrow _ _)
        all_goals
          have HA := Lib.hid (app_below HO0.out hwz (by first | exact (Below.refl _ _).alloc hwz _ | exact ((Below.refl _ _).alloc hwz _).drew) hgrow)
          have HR := Lib.hid (rel_three (x := x) (y := y) (z := z) hown1 HE.out HBk.out HA.out)
          clear hown1 hgrow
          go_wp2
          go_roundw
          case rel => exact ⟨k + 1, by omega, by go_num, HR.out.1, HR.out.2⟩
          case measure => simp [intOf]; omega
      · obtain rfl : k = n := by omega
        have hcv := conv_owned (P := Tryd.prog) (src := 31) (e := 5) (dst := 9) Tryd.underlying31 Tryd.underlying5 Tryd.underlying9 hown
        rw [strOfNums_ints] at hcv
        obtain ⟨t, ht⟩ : ∃ t : ByteArray, (⟨(x3 x y z k).toArray⟩ : ByteArray) = t := ⟨_, rfl⟩
        have hbt : bs t = x3 x y z k := by rw [← ht]; rfl
        have htz : t.size ≤ 100000 := by rw [← bs_length, hbt, x3_length]; omega
        rw [ht] at hcv
        obtain ⟨sx, hsx⟩ : ∃ sx, sumN (bs x) = sx := ⟨_, rfl⟩
        obtain ⟨sy, hsy⟩ : ∃ sy, sumN (bs y) = sy := ⟨_, rfl⟩
        obtain ⟨sz, hsz⟩ : ∃ sz, sumN (bs z) = sz := ⟨_, rfl⟩
        rw [hsx] at HSX HS
        rw [hsy] at HSY HS
        rw [hsz] at HSZ HS
        have hlx : sx < 4294967296 := HSX.out
        have hly : sy < 4294967296 := HSY.out
        have hlz : sz < 4294967296 := HSZ.out
        obtain ⟨d, hd⟩ : ∃ d, sx ^^^ sy = d := ⟨_, rfl⟩
        have hld : d < 4294967296 := by rw [← hd]; exact Nat.xor_lt_two_pow (n := 32) hlx hly
        have e1 := xor_u32 sx sy hlx hly
        have e2 := xor_u32 d sz hld hlz
        rw [hd] at e1 HS
        obtain ⟨f, hf⟩ : ∃ f, d ^^^ sz = f := ⟨_, rfl⟩
        rw [hf] at e2 HS
        have HF : Hid (sumN (bs t) = f) := by rw [hbt]; exact HS
        have HXs := Lib.hid hsx
        have HYs := Lib.hid hsy
        have HZs := Lib.hid hsz
        have HB3 := Lib.hid (HB2.out.trans (hb.mono (Nat.le_of_lt hz2)))
        clear hown hb ht hbt hsx hsy hsz hd hf HS HSX HSY HSZ HB2
        go_wp2_with fail
        refine (sum_any t _ htz (HT.out.below HB3.out hg)).mono ?_
        rintro e w' ⟨rfl, rfl⟩
        rw [HF.out]
        go_wp2_with fail
        refine (sum_any x _ (by omega) (HT.out.below HB3.out hg)).mono ?_
        rintro e w' ⟨rfl, rfl⟩
        rw [HXs.out]
        go_wp2_with fail
        refine (sum_any y _ (by omega) (HT.out.below HB3.out hg)).mono ?_
        rintro e w' ⟨rfl, rfl⟩
        rw [HYs.out]
        go_wp2_with fail
        refine (sum_any z _ (by omega) (HT.out.below HB3.out hg)).mono ?_
        rintro e w' ⟨rfl, rfl⟩
        rw [HZs.out]
        go_wp2_with fail
        go_ret
        exact ⟨rfl, HB3.out⟩

end Go.Proofs.YtmfonbpdjphikaaDoor
