/- The reference of layer 2, walked: its lists of bits as the bits of one number. -/
import Derived.Test.YtmfonbpdjphikaaDoorKit
import Derived.Test.YtmfonbpdjphikaaDoorCrcM
import Derived.Deep.OwnRows
namespace Go.Proofs.YtmfonbpdjphikaaDoor
open Go.RowKit

/-- the first N cells of a block, from a place on, are the bits of a number -/
def BitsAt (w : World) (g off N M : Nat) : Prop := ∀ i, i < N → w.cell? ⟨g, off + i, none⟩ = some (.bool (M.testBit i))
theorem BitsAt.drew {w : World} {g off N M : Nat} (h : BitsAt w g off N M) : BitsAt w.drew g off N M := h
theorem BitsAt.below {w w' : World} {B g off N M : Nat} (h : BitsAt w g off N M) (hb : Below B w w') (hg : g < B) : BitsAt w' g off N M := by
  intro i hi
  rw [hb.cell (p := ⟨g, off + i, none⟩) hg]; exact h i hi
theorem BitsAt.set {w : World} {g N M M' : Nat} (h : BitsAt w g 0 N M) (j : Nat) (b : Bool) (hj : M'.testBit j = b) (ho : ∀ i, i ≠ j → M'.testBit i = M.testBit i) :
    BitsAt (w.setCell ⟨g, j, none⟩ (.bool b)) g 0 N M' := by
  intro i hi
  have h1 := h i hi
  rw [Nat.zero_add] at *
  by_cases e : i = j
  · subst e
    rw [World.cell?_setCell_same w _ _ h1, hj]
  · have hne : (⟨g, j, none⟩ : Addr) ≠ ⟨g, i, none⟩ := fun h2 => e (congrArg Addr.off h2).symm
    rw [World.cell?_setCell_other w _ _ _ hne, h1, ho i e]

/-- the k lowest bits of a number, as cells -/
def bl (M : Nat) : Nat → List Value
  | 0 => []
  | k + 1 => bl M k ++ [.bool (M.testBit k)]
theorem bl_length (M k : Nat) : (bl M k).length = k := by
  induction k with
  | zero => rfl
  | succ k ih => simp [bl, ih]
theorem bl_get (M : Nat) : ∀ k i, i < k → (bl M k)[i]? = some (.bool (M.testBit i)) := by
  intro k
  induction k with
  | zero => intro i h; omega
  | succ k ih =>
    intro i h
    simp only [bl]
    by_cases e : i < k
    · rw [List.getElem?_append_left (by rw [bl_length]; exact e)]; exact ih i e
    · obtain rfl : i = k := by omega
      rw [List.getElem?_append_right (by rw [bl_length]; omega), bl_length]; simp
theorem owned_bits {w : World} {B E : Nat} {v : Value} {k M : Nat} (h : w.ownsRow B E 1 v k (bl M k)) :
    (v = .slice none 0 0 ∧ k = 0) ∨ ∃ g cap, v = .slice (some ⟨g, 0, none⟩) k cap ∧ B ≤ g ∧ g < w.heap.size ∧ BitsAt w g 0 k M := by
  obtain ⟨_, h⟩ := h
  rcases h with ⟨h1, h2⟩ | ⟨g, cap, cur, h1, h2, h3, h4, _, h5, h6⟩
  · exact Or.inl ⟨h1, h2⟩
  · refine Or.inr ⟨g, cap, h1, h2, ?_, ?_⟩
    · rcases Nat.lt_or_ge g w.heap.size with h | h
      · exact h
      · rw [Array.getElem?_eq_none h] at h3; cases h3
    · intro i hi
      rw [Nat.zero_add]
      have h7 : cur.toList[i]? = some (.bool (M.testBit i)) := by
        have h8 : (cur.toList.take (k * 1))[i]? = cur.toList[i]? := List.getElem?_take_of_lt (by omega)
        rw [← h8, h6]; exact bl_get M k i hi
      simpa [World.cell?, h3] using h7

theorem Tryd.infoBool : (Tryd.prog.info? 4).map (fun i => (i.zero, i.size, i.bytes)) = some (some (.bool false), 1, 1) := by kernel_rfl

def polyL : List Bool := [false, false, false, false, false, true, false, false, true, true, false, false, false, false, false, true, false, false, false, true, true, true, false, true, true, false, true, true, false, true, true, true]
theorem polyL_get : ∀ i, i < 32 → polyL[i]? = some (polyN.testBit i) := by decide
theorem poly_bits (w : World) (o : Obj) : BitsAt ((w.alloc (.cells #[.bool false, .bool false, .bool false, .bool false, .bool false, .bool true, .bool false, .bool false, .bool true, .bool true, .bool false, .bool false, .bool false, .bool false, .bool false, .bool true, .bool false, .bool false, .bool false, .bool true, .bool true, .bool true, .bool false, .bool true, .bool true, .bool false, .bool true, .bool true, .bool false, .bool true, .bool true, .bool true] 4)).alloc o) w.heap.size 0 32 polyN := by
  intro i hi
  rw [Nat.zero_add, World.cell?_alloc2_first]
  show ((polyL.map Value.bool).toArray)[i]? = _
  rw [List.getElem?_toArray, List.getElem?_map, polyL_get i hi]; rfl

/-! Poly: all numbers known -/
set_option maxRecDepth 100000 in
theorem poly_any (w : World) :
    Calls Tryd.prog 23 #[] w fun e w' => e = .returned (.slice (some ⟨w.heap.size, 0, none⟩) 32 32) ∧ Below w.heap.size w w' ∧ BitsAt w' w.heap.size 0 32 polyN ∧ w.heap.size < w'.heap.size := by
  have hmk : ∀ w, Sem.run Tryd.prog (Instr.makeSlice 37 (.int .i64 32) (.int .i64 32)) w = .ok (.slice (some ⟨w.heap.size, 0, none⟩) 32 32) (w.alloc (.cells #[.bool false, .bool false, .bool false, .bool false, .bool false, .bool false, .bool false, .bool false, .bool false, .bool false, .bool false, .bool false, .bool false, .bool false, .bool false, .bool false, .bool false, .bool false, .bool false, .bool false, .bool false, .bool false, .bool false, .bool false, .bool false, .bool false, .bool false, .bool false, .bool false, .bool false, .bool false, .bool false] 4)) := fun _ => by kernel_rfl
  go_enter Tryd.func23, Tryd.ntmps23
  go_wp2
  go_rounds 15
  go_ret
  exact ⟨rfl, ((Below.refl _ _).alloc (Nat.le_refl _) _).alloc (by simp) _, poly_bits _ _, by simp; omega⟩

/-! Of: the bits of a number -/
theorem bit_is (N k x : Nat) (h : N / 2 ^ k = x) : ((x : Int) % 2 == 1) = N.testBit k := by
  rw [Nat.testBit_eq_decide_div_mod_eq, h, Bool.eq_iff_iff]; simp; omega
def OfPost (N B : Nat) (w : World) (e : Ending) (w' : World) : Prop := ∃ v, e = .returned v ∧ w'.ownsRow B 4 1 v 32 (bl N 32) ∧ Below B w w'
theorem rel_bits {w wr w1 : World} {B N k : Nat} {v' : Value} {b : Bool} (ho : w1.ownsRow B 4 1 v' (k + 1) (bl N k ++ [.bool b])) (hv : b = N.testBit k) (hb : Below B w wr) (hg : Below B wr w1) :
    w1.ownsRow B 4 1 v' (k + 1) (bl N (k + 1)) ∧ Below B w w1 := by
  subst hv; exact ⟨ho, hb.trans hg⟩
theorem own_below {wr w1 : World} {B n : Nat} {v : Value} {xs : List Value} {E : TypeId} {o : Obj} (hown : wr.ownsRow B E 1 v n xs) (hB : B ≤ wr.heap.size) (hgrow : (wr.alloc o).grownBy w1 v.ownBlock) : Below B wr w1 := by
  refine Below.grown (row := v.ownBlock) ((Below.refl _ _).alloc hB _) hgrow (by simp; omega) ?_
  intro g hg
  exact hown.2.elim (fun h => by rw [h.1] at hg; simp [Value.ownBlock] at hg) (fun ⟨g', _, _, h, hge, _⟩ => by rw [h] at hg; simp [Value.ownBlock] at hg; omega)

set_option maxRecDepth 100000 in
theorem of_any (N : Nat) (w : World) (hN : N < 4294967296) :
    Calls Tryd.prog 20 #[.int .u32 N] w (OfPost N w.heap.size w) := by
  obtain ⟨i0, hi, hz0, hz1, hz2⟩ := info_parts Tryd.infoBool
  go_enter Tryd.func20, Tryd.ntmps20
  go_wp2
  go_loopw [0, 3, 4] (fun x b i wr => ∃ k : Nat, k ≤ 32 ∧ i = .int .i64 k ∧ x = .int .u32 ((N / 2 ^ k : Nat) : Int) ∧ wr.ownsRow w.heap.size 4 1 b k (bl N k) ∧ Below w.heap.size w wr) (fun _ _ i _ => 32 - (intOf i).toNat)
  case atStart => exact ⟨0, by omega, rfl, by simp, ⟨rfl, Or.inl ⟨rfl, rfl⟩⟩, Below.refl _ _⟩
  case round =>
    obtain ⟨k, hk, rfl, rfl, hown, hb⟩ := hrel
    by_cases hlt : k < 32
    · obtain ⟨x, hx⟩ : ∃ x, N / 2 ^ k = x := ⟨_, rfl⟩
      have hxb : x < 4294967296 := by rw [← hx]; exact Nat.lt_of_le_of_lt (Nat.div_le_self _ _) hN
      have HX : Hid (N / 2 ^ (k + 1) = x / 2) := by rw [Nat.pow_succ, ← Nat.div_div_eq_div_mul, hx]; rfl
      have hbit := bit_is N k x hx
      rw [hx]
      clear hx
      go_wp2_with (at_builtin; refine wpList_append_own _ rfl _ _ 37 rfl w.heap.size 4 i0 (.bool false) 1 1 Tryd.underlying37 hi hz0 hz1 hz2 rfl (by decide) _ _ _ rfl (hown.alloc _) ⟨wr.heap.size, 0, none⟩ 1 1 [.bool (N.testBit k)] rfl rfl ?c1 ?c2 ?c3 ?c4 ?c5 ?_)
      case c1 => exact cell_one_new _ _ _
      case c2 => intro u hu; simp at hu; subst hu; rfl
      case c3 => unfold maxLen; omega
      case c4 => omega
      case c5 => have := hb.size; simp; omega
      intro v' w1 hown1 hgrow _
      have HR := Lib.hid (rel_bits hown1 rfl hb (own_below hown hb.size hgrow))
      clear hown1 hgrow hown
      go_wp2
      go_roundw
      case rel => exact ⟨k + 1, by omega, by go_num, by rw [HX.out]; go_num, HR.out.1, HR.out.2⟩
      case measure => simp [intOf]; omega
    · obtain rfl : k = 32 := by omega
      go_wp2
      go_ret
      exact ⟨_, rfl, hown, hb⟩


/-! Bits: the bits of a text -/
theorem numN_testBit : ∀ (l : List UInt8) (k j : Nat) (c : UInt8), l[k]? = some c → j < 8 → (numN l).testBit (8 * k + j) = c.toNat.testBit j
  | [], k, j, c, h, _ => by simp at h
  | b :: l, 0, j, c, h, hj => by
    simp at h; subst h
    have hb : b.toNat < 2 ^ 8 := b.toNat_lt
    rw [show numN (b :: l) = 2 ^ 8 * numN l + b.toNat by simp only [numN]; omega, Nat.testBit_two_pow_mul_add _ hb, if_pos (by omega), show 8 * 0 + j = j by omega]
  | b :: l, k + 1, j, c, h, hj => by
    have hb : b.toNat < 2 ^ 8 := b.toNat_lt
    rw [show numN (b :: l) = 2 ^ 8 * numN l + b.toNat by simp only [numN]; omega, Nat.testBit_two_pow_mul_add _ hb, if_neg (by omega), show 8 * (k + 1) + j - 8 = 8 * k + j by omega]
    exact numN_testBit l k j c (by simpa using h) hj
theorem str_testBit (s : ByteArray) (k j : Nat) (hk : k < s.size) (hj : j < 8) : (numN s.data.toList).testBit (8 * k + j) = s[k].toNat.testBit j :=
  numN_testBit _ k j _ (by simp [hk]; rfl) hj
def BitsPost (M n B : Nat) (w : World) (e : Ending) (w' : World) : Prop := ∃ v, e = .returned v ∧ w'.ownsRow B 4 1 v n (bl M n) ∧ Below B w w'

set_option maxRecDepth 100000 in
theorem bits_any (s : ByteArray) (w : World) (hm : s.size ≤ 1000) :
    Calls Tryd.prog 19 #[.string s] w (BitsPost (numN s.data.toList) (8 * s.size) w.heap.size w) := by
  obtain ⟨i0, hi, hz0, hz1, hz2⟩ := info_parts Tryd.infoBool
  obtain ⟨M, hM⟩ : ∃ M, numN s.data.toList = M := ⟨_, rfl⟩
  have HM := Lib.hid hM
  rw [hM]; clear hM
  go_enter Tryd.func19, Tryd.ntmps19
  go_wp2
  go_loopw [3, 4] (fun b i wr => ∃ k : Nat, k ≤ s.size ∧ i = .int .i64 k ∧ wr.ownsRow w.heap.size 4 1 b (8 * k) (bl M (8 * k)) ∧ Below w.heap.size w wr) (fun _ i _ => s.size - (intOf i).toNat)
  case atStart => exact ⟨0, by omega, rfl, ⟨rfl, Or.inl ⟨rfl, rfl⟩⟩, Below.refl _ _⟩
  case round =>
    obtain ⟨k, hk, rfl, hown, hb⟩ := hrel
    obtain ⟨wo, rfl⟩ : ∃ wo : World, wo = wr := ⟨_, rfl⟩
    by_cases hlt : k < s.size
    · obtain ⟨c, hc⟩ : ∃ c : Nat, s[k].toNat = c := ⟨_, rfl⟩
      have hc2 : c ≤ 255 := by have : s[k].toNat < 256 := s[k].toNat_lt; omega
      have HC := Lib.hid hc
      have HO := Lib.hid hown
      have HBo := Lib.hid hb
      clear hown hb
      go_wp2
      clear hc
      go_loopw [3, 5, 6] (fun b n i wr => ∃ j : Nat, j ≤ 8 ∧ i = .int .i64 j ∧ n = .int .i64 ((c / 2 ^ j : Nat) : Int) ∧ wr.ownsRow w.heap.size 4 1 b (8 * k + j) (bl M (8 * k + j)) ∧ Below w.heap.size w wr) (fun _ _ i _ => 8 - (intOf i).toNat)
      case atStart => exact ⟨0, by omega, rfl, by simp, HO.out, HBo.out⟩
      case round =>
        obtain ⟨j, hj, rfl, rfl, hown, hb⟩ := hrel
        by_cases hjt : j < 8
        · obtain ⟨x, hx⟩ : ∃ x, c / 2 ^ j = x := ⟨_, rfl⟩
          have hxb : x ≤ 255 := by rw [← hx]; exact Nat.le_trans (Nat.div_le_self _ _) hc2
          have HX : Hid (c / 2 ^ (j + 1) = x / 2) := by rw [Nat.pow_succ, ← Nat.div_div_eq_div_mul, hx]; rfl
          have hbit : ((x : Int) % 2 == 1) = M.testBit (8 * k + j) := by
            rw [← HM.out, str_testBit s k j hlt hjt, HC.out]; exact bit_is c j x hx
          rw [hx]
          clear hx
          go_wp2_with (at_builtin; refine wpList_append_own _ rfl _ _ 37 rfl w.heap.size 4 i0 (.bool false) 1 1 Tryd.underlying37 hi hz0 hz1 hz2 rfl (by decide) _ _ _ rfl (hown.alloc _) ⟨wr.heap.size, 0, none⟩ 1 1 [.bool (M.testBit (8 * k + j))] rfl rfl ?c1 ?c2 ?c3 ?c4 ?c5 ?_)
          case c1 => exact cell_one_new _ _ _
          case c2 => intro u hu; simp at hu; subst hu; rfl
          case c3 => unfold maxLen; omega
          case c4 => omega
          case c5 => have := hb.size; simp; omega
          intro v' w1 hown1 hgrow _
          have HR := Lib.hid (rel_bits hown1 rfl hb (own_below hown hb.size hgrow))
          clear hown1 hgrow hown
          go_wp2
          go_roundw
          case rel => exact ⟨j + 1, by omega, by go_num, by rw [HX.out]; go_num, HR.out.1, HR.out.2⟩
          case measure => simp [intOf]; omega
        · obtain rfl : j = 8 := by omega
          have HO2 := Lib.hid hown
          clear hown
          go_wp2
          go_roundw
          case rel => exact ⟨k + 1, by omega, by go_num, HO2.out, hb⟩
          case measure => simp [intOf]; omega
    · obtain rfl : k = s.size := by omega
      have HO := Lib.hid hown
      clear hown
      go_wp2
      go_ret
      exact ⟨_, rfl, HO.out, hb⟩

end Go.Proofs.YtmfonbpdjphikaaDoor
