/- The reference's Number and Left: a list of bits as a number; what is left of a polynomial. -/
import Derived.Test.YtmfonbpdjphikaaDoorCrcR1
namespace Go.Proofs.YtmfonbpdjphikaaDoor
open Go.RowKit

theorem mod_succ (M k : Nat) : M % 2 ^ (k + 1) = M % 2 ^ k + 2 ^ k * (if M.testBit k then 1 else 0) := by
  rw [Nat.mod_pow_succ, Nat.testBit_eq_decide_div_mod_eq]
  have h : M / 2 ^ k % 2 = 0 ∨ M / 2 ^ k % 2 = 1 := by omega
  rcases h with h | h <;> simp [h]
/-- the k-th power of two, as it is kept in 32 bits -/
def pw (k : Nat) : Nat := 2 ^ k % 4294967296
theorem pw_lt (k : Nat) (h : k < 32) : pw k = 2 ^ k := Nat.mod_eq_of_lt (Nat.lt_of_lt_of_le (Nat.pow_lt_pow_right (by decide) h) (by decide))
theorem pw_bd (k : Nat) : pw k < 4294967296 := Nat.mod_lt _ (by decide)
theorem pw_succ (k : Nat) : ((pw k : Nat) : Int) * 2 % 4294967296 = ((pw (k + 1) : Nat) : Int) := by
  unfold pw; rw [Nat.pow_succ]; omega

theorem number_any (g off X cap : Nat) (w : World) (hX : X < 4294967296) (hc : BitsAt w g off 32 X) :
    Calls Tryd.prog 17 #[.slice (some ⟨g, off, none⟩) 32 cap] w fun e w' => e = .returned (.int .u32 X) ∧ w = w' := by
  have HC := Lib.hid hc
  clear hc
  go_enter Tryd.func17, Tryd.ntmps17
  go_wp2
  go_loop [3, 4, 5] (fun n p i => ∃ k : Nat, k ≤ 32 ∧ i = .int .i64 k ∧ n = .int .u32 ((X % 2 ^ k : Nat) : Int) ∧ p = .int .u32 (pw k)) (fun _ _ i => 32 - (intOf i).toNat)
  case atStart => exact ⟨0, by omega, rfl, by simp [Nat.mod_one], rfl⟩
  case round =>
    obtain ⟨k, hk, rfl, rfl, rfl⟩ := hrel
    by_cases hlt : k < 32
    · have hcell := HC.out k hlt
      have HM := Lib.hid (mod_succ X k)
      have HP := Lib.hid (pw_succ k)
      have HL := Lib.hid (pw_lt k hlt)
      have hpw := pw_bd k
      have hb : X % 2 ^ (k + 1) < 4294967296 := Nat.lt_of_le_of_lt (Nat.mod_le _ _) hX
      have HBd := Lib.hid hb
      clear hb
      obtain ⟨y, hy⟩ : ∃ y, X % 2 ^ k = y := ⟨_, rfl⟩
      have hyb : y < 4294967296 := by rw [← hy]; exact Nat.lt_of_le_of_lt (Nat.mod_le _ _) hX
      have HY := Lib.hid hy
      rw [hy]
      clear hy
      cases hbit : X.testBit k
      · rw [hbit] at hcell
        have HS : Hid (X % 2 ^ (k + 1) = y) := by rw [HM.out, HY.out, hbit]; simp [Hid]
        clear hbit
        go_wp2
        go_round
        case rel => exact ⟨k + 1, by omega, by go_num, by rw [HS.out], by rw [← HP.out]⟩
        case measure => simp [intOf]; omega
      · rw [hbit] at hcell
        have HS : Hid (X % 2 ^ (k + 1) = y + pw k) := by rw [HM.out, HY.out, hbit, HL.out]; simp [Hid]
        have hsum : y + pw k < 4294967296 := by rw [← HS.out]; exact HBd.out
        clear hbit
        go_wp2
        go_round
        case rel => exact ⟨k + 1, by omega, by go_num, by rw [HS.out]; go_num, by rw [← HP.out]⟩
        case measure => simp [intOf]; omega
    · obtain rfl : k = 32 := by omega
      go_wp2
      go_ret
      exact ⟨ret_int (by omega), rfl⟩

/-! Left -/
theorem mod_bit (M k i : Nat) : (M % 2 ^ k).testBit i = (decide (i < k) && M.testBit i) := Nat.testBit_mod_two_pow _ _ _
theorem copy_at (L k : Nat) : (L % 2 ^ (k + 1)).testBit k = L.testBit k := by rw [mod_bit]; simp
theorem copy_off (L k i : Nat) (h : i ≠ k) : (L % 2 ^ (k + 1)).testBit i = (L % 2 ^ k).testBit i := by
  rw [mod_bit, mod_bit]; congr 1; rw [decide_eq_decide]; omega
theorem fold_at (L F k : Nat) : (L ^^^ F % 2 ^ (k + 1)).testBit k = ((L ^^^ F % 2 ^ k).testBit k != F.testBit k) := by
  rw [Nat.testBit_xor, Nat.testBit_xor, mod_bit, mod_bit]; simp
theorem fold_off (L F k i : Nat) (h : i ≠ k) : (L ^^^ F % 2 ^ (k + 1)).testBit i = (L ^^^ F % 2 ^ k).testBit i := by
  rw [Nat.testBit_xor, Nat.testBit_xor, copy_off _ _ _ h]
theorem step_bit (M P m k i : Nat) : (M ^^^ 2 ^ (m + 1) * (P % 2 ^ k)).testBit i = (M.testBit i != (decide (m + 1 ≤ i) && (decide (i - (m + 1) < k) && P.testBit (i - (m + 1))))) := by
  rw [Nat.testBit_xor, Nat.testBit_two_pow_mul, mod_bit]
theorem step_at (M P m k : Nat) : (M ^^^ 2 ^ (m + 1) * (P % 2 ^ (k + 1))).testBit (m + 1 + k) = ((M ^^^ 2 ^ (m + 1) * (P % 2 ^ k)).testBit (m + 1 + k) != P.testBit k) := by
  rw [step_bit, step_bit, show m + 1 + k - (m + 1) = k by omega]; simp
theorem step_off (M P m k i : Nat) (h : i ≠ m + 1 + k) : (M ^^^ 2 ^ (m + 1) * (P % 2 ^ (k + 1))).testBit i = (M ^^^ 2 ^ (m + 1) * (P % 2 ^ k)).testBit i := by
  rw [step_bit, step_bit]
  by_cases h1 : m + 1 ≤ i
  · rw [show decide (i - (m + 1) < k + 1) = decide (i - (m + 1) < k) by rw [decide_eq_decide]; omega]
  · simp [h1]
/-- the list of bits after so many steps of the division -/
def divM (M : Nat) : Nat → Nat
  | 0 => M
  | m + 1 => divM M m ^^^ 2 ^ (m + 1) * (if (divM M m).testBit m then polyN else 0)
theorem div_xor (a b k : Nat) : (a ^^^ 2 ^ k * b) / 2 ^ k = a / 2 ^ k ^^^ b := by
  apply Nat.eq_of_testBit_eq; intro i
  rw [Nat.testBit_div_two_pow, Nat.testBit_xor, Nat.testBit_xor, Nat.testBit_div_two_pow, Nat.testBit_two_pow_mul]
  simp
theorem divM_sN (M : Nat) : ∀ m, divM M m / 2 ^ m = sN m M := by
  intro m
  induction m with
  | zero => simp [divM, sN]
  | succ m ih =>
    rw [sN_succ, ← ih]
    show (divM M m ^^^ 2 ^ (m + 1) * (if (divM M m).testBit m then polyN else 0)) / 2 ^ (m + 1) = _
    rw [div_xor, Nat.pow_succ, ← Nat.div_div_eq_div_mul]
    unfold s0
    congr 1
    rw [Nat.testBit_eq_decide_div_mod_eq]
    by_cases h : divM M m / 2 ^ m % 2 = 1 <;> simp [h]
theorem divM_bit (M m i : Nat) : (divM M m).testBit (m + i) = (sN m M).testBit i := by
  rw [← divM_sN, Nat.testBit_div_two_pow, Nat.add_comm]

/-- a list of bits of the call's own: block G holds the bits of M, N of them, and may be written; nothing below G has turned -/
def OwnM (w wr : World) (G N M : Nat) : Prop := BitsAt wr G 0 N M ∧ Below G w wr ∧ (∀ i, wr.frozen? ⟨G, i, none⟩ = false) ∧ G < wr.heap.size
theorem OwnM.drew {w wr : World} {G N M : Nat} (h : OwnM w wr G N M) : OwnM w wr.drew G N M := ⟨h.1, h.2.1.drew, h.2.2.1, h.2.2.2⟩
theorem OwnM.set {w wr : World} {G N M M' : Nat} (h : OwnM w wr G N M) (j : Nat) (b : Bool) (hj : M'.testBit j = b) (ho : ∀ i, i ≠ j → M'.testBit i = M.testBit i) :
    OwnM w (wr.setCell ⟨G, j, none⟩ (.bool b)) G N M' := by
  refine ⟨h.1.set j b hj ho, h.2.1.setCell (Nat.le_refl _) _, fun i => ?_, by simpa [World.setCell] using h.2.2.2⟩
  rw [World.frozen?_setCell]; exact h.2.2.1 i
theorem OwnM.cell {w wr : World} {G N M : Nat} (h : OwnM w wr G N M) (i : Nat) (hi : i < N) : wr.cell? ⟨G, i, none⟩ = some (.bool (M.testBit i)) := by
  have := h.1 i hi; rwa [Nat.zero_add] at this
theorem OwnM.made (w : World) (N : Nat) (E : TypeId) : OwnM w (w.alloc (.cells (madeCells #[.bool false] N) E)) w.heap.size N 0 := by
  refine ⟨?_, (Below.refl _ _).alloc (Nat.le_refl _) _, fun i => World.frozen?_alloc_new _ _ _ _, by simp⟩
  intro i hi
  rw [Nat.zero_add, World.cell?_alloc_new, Nat.zero_testBit]
  simp [madeCells, hi, Nat.mod_one]

theorem OwnM.later {w wp w1 : World} {G N M : Nat} (h : OwnM w wp G N M) (hb : Below wp.heap.size wp w1) : OwnM w w1 G N M :=
  ⟨h.1.below hb h.2.2.2, h.2.1.trans (hb.mono (Nat.le_of_lt h.2.2.2)), fun i => by rw [hb.frozen (p := ⟨G, i, none⟩) h.2.2.2]; exact h.2.2.1 i, Nat.lt_of_lt_of_le h.2.2.2 hb.size⟩
theorem BitsAt.other {w : World} {g off N M : Nat} (h : BitsAt w g off N M) {G : Nat} (hg : G ≠ g) (j : Nat) (v : Value) : BitsAt (w.setCell ⟨G, j, none⟩ v) g off N M := by
  intro i hi
  have hne : (⟨G, j, none⟩ : Addr) ≠ ⟨g, off + i, none⟩ := fun h2 => hg (congrArg Addr.block h2)
  rw [World.cell?_setCell_other w _ _ _ hne]; exact h i hi
theorem divM_no (M m : Nat) (h : (divM M m).testBit m = false) : divM M (m + 1) = divM M m := by
  show divM M m ^^^ 2 ^ (m + 1) * (if (divM M m).testBit m then polyN else 0) = _
  rw [h]; simp
theorem divM_yes (M m : Nat) (h : (divM M m).testBit m = true) : divM M (m + 1) = divM M m ^^^ 2 ^ (m + 1) * polyN := by
  show divM M m ^^^ 2 ^ (m + 1) * (if (divM M m).testBit m then polyN else 0) = _
  rw [h, if_pos rfl]
theorem left_bits {w wr : World} {G k M : Nat} (h : OwnM w wr G (k + 32) (divM M k)) : BitsAt wr G k 32 (sN k M) := by
  intro i hi
  have := h.cell (k + i) (by omega)
  rwa [divM_bit] at this

def LeftPost (n X B : Nat) (w : World) (e : Ending) (w' : World) : Prop := ∃ g cap, e = .returned (.slice (some ⟨g, n, none⟩) 32 cap) ∧ BitsAt w' g n 32 X ∧ Below B w w'

set_option maxRecDepth 100000 in
theorem left_any (a : Option Addr) (n ca L bf cf F : Nat) (w : World) (hn : n ≤ 100000) (hL : ∀ i, i < n → ∃ b, a = some ⟨b, 0, none⟩ ∧ b < w.heap.size ∧ BitsAt w b 0 n L) (hLn : L < 2 ^ n)
    (hbf : bf < w.heap.size) (hF : BitsAt w bf 0 32 F) (hF32 : F < 2 ^ 32) :
    Calls Tryd.prog 18 #[.slice a n ca, .slice (some ⟨bf, 0, none⟩) 32 cf] w (LeftPost n (sN n (L ^^^ F)) w.heap.size w) := by
  have hmk := run_make_row' (P := Tryd.prog) 37 4 (.bool false) 1 Tryd.underlying37 Tryd.infoBool rfl .i64 .i64 (n + 32) (by omega) (by omega)
  rw [show ((n + 32 : Nat) : Int) = (n : Int) + 32 from rfl] at hmk
  have HL := Lib.hid hL
  have HF := Lib.hid hF
  have HLn := Lib.hid (Nat.mod_eq_of_lt hLn)
  have HFn := Lib.hid (Nat.mod_eq_of_lt hF32)
  have HO := Lib.hid (OwnM.made w (n + 32) 4)
  clear hL hF hLn hF32
  go_enter Tryd.func18, Tryd.ntmps18
  go_wp2
  go_loopw [6] (fun i wr => ∃ k : Nat, k ≤ n ∧ i = .int .i64 k ∧ OwnM w wr w.heap.size (n + 32) (L % 2 ^ k)) (fun i _ => n - (intOf i).toNat)
  case atStart => exact ⟨0, by omega, rfl, by rw [Nat.pow_zero, Nat.mod_one]; exact HO.out⟩
  case round =>
    obtain ⟨k, hk, rfl, hown⟩ := hrel
    have HW := Lib.hid hown
    clear hown HO
    by_cases hlt : k < n
    · obtain ⟨b, rfl, hb, hbits⟩ := HL.out k hlt
      have hc1 := (hbits.below HW.out.2.1 hb) k hlt
      rw [Nat.zero_add] at hc1
      have hc2 := HW.out.cell k (by omega)
      have hf := HW.out.2.2.1 k
      clear hbits
      go_wp2
      go_roundw
      case rel => exact ⟨k + 1, by omega, by go_num, HW.out.set k _ (copy_at L k) (copy_off L k)⟩
      case measure => simp [intOf]; omega
    · obtain rfl : k = n := by omega
      have HW0 : Hid (OwnM w wr w.heap.size (k + 32) (L ^^^ F % 2 ^ 0)) := by
        have := HW.out
        rw [HLn.out] at this
        rw [Nat.pow_zero, Nat.mod_one, Nat.xor_zero]; exact this
      clear HW
      obtain ⟨wo, rfl⟩ : ∃ wo : World, wo = wr := ⟨_, rfl⟩
      go_wp2
      go_loopw [7] (fun i wr => ∃ m : Nat, m ≤ 32 ∧ i = .int .i64 m ∧ OwnM w wr w.heap.size (k + 32) (L ^^^ F % 2 ^ m)) (fun i _ => 32 - (intOf i).toNat)
      case atStart => exact ⟨0, by omega, rfl, HW0.out⟩
      case round =>
        obtain ⟨m, hm, rfl, hown⟩ := hrel
        have HW := Lib.hid hown
        clear hown HW0
        by_cases hlt : m < 32
        · have hc1 := (HF.out.below HW.out.2.1 hbf) m hlt
          rw [Nat.zero_add] at hc1
          have hc2 := HW.out.cell m (by omega)
          have hf := HW.out.2.2.1 m
          obtain ⟨x, hx⟩ : ∃ x, (L ^^^ F % 2 ^ m).testBit m = x := ⟨_, rfl⟩
          obtain ⟨y, hy⟩ : ∃ y, F.testBit m = y := ⟨_, rfl⟩
          rw [hx] at hc2
          rw [hy] at hc1
          have HX : Hid ((L ^^^ F % 2 ^ (m + 1)).testBit m = !(x == y)) := by rw [fold_at, hx, hy]; rfl
          clear hx hy
          go_wp2
          go_region
          go_wp2
          go_roundw
          case rel => exact ⟨m + 1, by omega, by go_num, (HW.out.set m _ HX.out (fold_off L F m)).drew⟩
          case measure => simp [intOf]; omega
        · obtain rfl : m = 32 := by omega
          obtain ⟨M, hM⟩ : ∃ M, L ^^^ F = M := ⟨_, rfl⟩
          have HW2 : Hid (OwnM w wr w.heap.size (k + 32) (divM M 0)) := by
            have := HW.out
            rw [HFn.out, hM] at this; exact this
          have HM := Lib.hid hM
          clear HW hM
          obtain ⟨wp, rfl⟩ : ∃ wp : World, wp = wr := ⟨_, rfl⟩
          go_wp2_with fail
          refine (poly_any _).mono ?_
          rintro e w1 ⟨rfl, hb1, hp, hps⟩
          obtain ⟨gp, hgp⟩ : ∃ gp, wp.heap.size = gp := ⟨_, rfl⟩
          have HW3 := Lib.hid (HW2.out.later hb1)
          have hG : w.heap.size ≠ gp := by have := HW2.out.2.2.2; omega
          rw [hgp] at hp
          have HP := Lib.hid hp
          have HG := Lib.hid hG
          rw [hgp]
          clear HW2 hb1 hp hps hgp hG
          go_wp2
          go_loopw [9] (fun i wr => ∃ m : Nat, m ≤ k ∧ i = .int .i64 m ∧ OwnM w wr w.heap.size (k + 32) (divM M m) ∧ BitsAt wr gp 0 32 polyN) (fun i _ => k - (intOf i).toNat)
          case atStart => exact ⟨0, by omega, rfl, HW3.out, HP.out⟩
          case round =>
            obtain ⟨m, hm, rfl, hown, hpb⟩ := hrel
            have HW := Lib.hid hown
            have HPb := Lib.hid hpb
            clear hown hpb HW3 HP
            by_cases hlt : m < k
            · have hc2 := HW.out.cell m (by omega)
              obtain ⟨t, ht⟩ : ∃ t, (divM M m).testBit m = t := ⟨_, rfl⟩
              rw [ht] at hc2
              cases t
              · have HD : Hid (divM M (m + 1) = divM M m) := divM_no M m ht
                clear ht
                go_wp2
                go_roundw
                case rel => exact ⟨m + 1, by omega, by go_num, by rw [HD.out]; exact HW.out, HPb.out⟩
                case measure => simp [intOf]; omega
              · have HD : Hid (divM M (m + 1) = divM M m ^^^ 2 ^ (m + 1) * polyN) := divM_yes M m ht
                obtain ⟨D, hD⟩ : ∃ D, divM M m = D := ⟨_, rfl⟩
                rw [hD] at HW HD
                have HDD := Lib.hid hD
                clear ht hD
                obtain ⟨wq, rfl⟩ : ∃ wq : World, wq = wr := ⟨_, rfl⟩
                go_wp2
                go_loopw [10] (fun i wr => ∃ j : Nat, j ≤ 32 ∧ i = .int .i64 j ∧ OwnM w wr w.heap.size (k + 32) (D ^^^ 2 ^ (m + 1) * (polyN % 2 ^ j)) ∧ BitsAt wr gp 0 32 polyN) (fun i _ => 32 - (intOf i).toNat)
                case atStart => exact ⟨0, by omega, rfl, by rw [Nat.pow_zero, Nat.mod_one, Nat.mul_zero, Nat.xor_zero]; exact HW.out, HPb.out⟩
                case round =>
                  obtain ⟨j, hj, rfl, hown, hpb⟩ := hrel
                  have HV := Lib.hid hown
                  have HPc := Lib.hid hpb
                  clear hown hpb hc2 HW HPb
                  by_cases hjt : j < 32
                  · have hc1 := HPc.out j hjt
                    rw [Nat.zero_add] at hc1
                    have hc2 := HV.out.cell (m + 1 + j) (by omega)
                    have hf := HV.out.2.2.1 (m + 1 + j)
                    obtain ⟨x, hx⟩ : ∃ x, (D ^^^ 2 ^ (m + 1) * (polyN % 2 ^ j)).testBit (m + 1 + j) = x := ⟨_, rfl⟩
                    obtain ⟨y, hy⟩ : ∃ y, polyN.testBit j = y := ⟨_, rfl⟩
                    rw [hx] at hc2
                    rw [hy] at hc1
                    have HX : Hid ((D ^^^ 2 ^ (m + 1) * (polyN % 2 ^ (j + 1))).testBit (m + 1 + j) = !(x == y)) := by rw [step_at, hx, hy]; rfl
                    clear hx hy
                    go_wp2
                    go_region
                    go_wp2
                    go_roundw
                    case rel => exact ⟨j + 1, by omega, by go_num, (HV.out.set (m + 1 + j) _ HX.out (step_off D polyN m j)).drew, (HPc.out.other HG.out _ _).drew⟩
                    case measure => simp [intOf]; omega
                  · obtain rfl : j = 32 := by omega
                    have HE : Hid (OwnM w wr w.heap.size (k + 32) (divM M (m + 1))) := by
                      have := HV.out
                      rw [Nat.mod_eq_of_lt polyN_lt] at this
                      rw [HD.out]; exact this
                    go_wp2
                    go_roundw
                    case rel => exact ⟨m + 1, by omega, by go_num, HE.out, HPc.out⟩
                    case measure => simp [intOf]; omega
            · obtain rfl : m = k := by omega
              have HB := Lib.hid (left_bits HW.out)
              have HBel := Lib.hid HW.out.2.1
              clear HW HPb
              go_wp2
              go_ret
              exact ⟨_, _, rfl, by rw [HM.out]; exact HB.out, HBel.out⟩

end Go.Proofs.YtmfonbpdjphikaaDoor
