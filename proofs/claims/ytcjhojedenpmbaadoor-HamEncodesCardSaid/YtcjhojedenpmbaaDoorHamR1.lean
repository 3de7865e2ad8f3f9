/- The reference of layer 3, walked: power, Places, Xor, Bits, Left. -/
import Derived.Test.YtcjhojedenpmbaaDoorHamT
import Derived.Deep.OwnRows
namespace Go.Proofs.YtcjhojedenpmbaaDoor
open Go.RowKit

/-- numbers as cells -/
def V (x : Nat) : Value := .int .i64 (x : Nat)
/-- the first cells of a block are these numbers -/
def IntsAt (w : World) (g : Nat) (xs : List Nat) : Prop := ∀ i, i < xs.length → w.cell? ⟨g, i, none⟩ = some (.int .i64 ((xs.getD i 0 : Nat) : Int))
theorem IntsAt.below {w w' : World} {B g : Nat} {xs : List Nat} (h : IntsAt w g xs) (hb : Below B w w') (hg : g < B) : IntsAt w' g xs := by
  intro i hi
  rw [hb.cell (p := ⟨g, i, none⟩) hg]; exact h i hi
/-- this value is a slice of these numbers -/
def Ints (w : World) (v : Value) (xs : List Nat) : Prop := ∃ a ca, v = .slice a xs.length ca ∧ ∀ i, i < xs.length → ∃ b, a = some ⟨b, 0, none⟩ ∧ b < w.heap.size ∧ IntsAt w b xs
theorem Ints.below {w w' : World} {v : Value} {xs : List Nat} (h : Ints w v xs) (hb : Below w.heap.size w w') : Ints w' v xs := by
  obtain ⟨a, ca, h1, h2⟩ := h
  refine ⟨a, ca, h1, fun i hi => ?_⟩
  obtain ⟨b, h3, h4, h5⟩ := h2 i hi
  exact ⟨b, h3, Nat.lt_of_lt_of_le h4 hb.size, h5.below hb h4⟩
theorem owned_cells {w : World} {B E : Nat} {v : Value} {n : Nat} {xs : List Nat} (h : w.ownsRow B E 1 v n (xs.map V)) (hn : n = xs.length) :
    (v = .slice none 0 0 ∧ xs = []) ∨ ∃ g cap, v = .slice (some ⟨g, 0, none⟩) n cap ∧ B ≤ g ∧ g < w.heap.size ∧ IntsAt w g xs := by
  subst hn
  obtain ⟨_, h⟩ := h
  rcases h with ⟨h1, h2⟩ | ⟨g, cap, cur, h1, h2, h3, h4, _, h5, h6⟩
  · exact Or.inl ⟨h1, List.eq_nil_of_length_eq_zero h2⟩
  · refine Or.inr ⟨g, cap, h1, h2, ?_, ?_⟩
    · rcases Nat.lt_or_ge g w.heap.size with h | h
      · exact h
      · rw [Array.getElem?_eq_none h] at h3; cases h3
    · intro i hi
      have h7 : cur.toList[i]? = some (V (xs.getD i 0)) := by
        have h8 : (cur.toList.take (xs.length * 1))[i]? = cur.toList[i]? := List.getElem?_take_of_lt (by omega)
        rw [← h8, h6]
        simp [List.getD, hi]
      simpa [World.cell?, h3, V] using h7
theorem owned_ints {w : World} {B E : Nat} {v : Value} {n : Nat} {xs : List Nat} (h : w.ownsRow B E 1 v n (xs.map V)) (hn : n = xs.length) : Ints w v xs := by
  rcases owned_cells h hn with ⟨rfl, rfl⟩ | ⟨g, cap, rfl, _, hg, hi⟩
  · exact ⟨none, 0, rfl, fun i hi => by simp at hi⟩
  · subst hn
    exact ⟨_, cap, rfl, fun i _ => ⟨g, rfl, hg, hi⟩⟩
theorem Tryd.infoInt : (Tryd.prog.info? 3).map (fun i => (i.zero, i.size, i.bytes)) = some (some (.int .i64 0), 1, 8) := by kernel_rfl
theorem own_below {wr w1 : World} {B n : Nat} {v : Value} {xs : List Value} {E : TypeId} {o : Obj} (hown : wr.ownsRow B E 1 v n xs) (hB : B ≤ wr.heap.size) (hgrow : (wr.alloc o).grownBy w1 v.ownBlock) : Below B wr w1 := by
  refine Below.grown (row := v.ownBlock) ((Below.refl _ _).alloc hB _) hgrow (by simp; omega) ?_
  intro g hg
  exact hown.2.elim (fun h => by rw [h.1] at hg; simp [Value.ownBlock] at hg) (fun ⟨g', _, _, h, hge, _⟩ => by rw [h] at hg; simp [Value.ownBlock] at hg; omega)

/-! power -/
def isPow (n : Nat) : Bool := n == 1 || n == 2 || n == 4 || n == 8 || n == 16 || n == 32 || n == 64 || n == 128
theorem pow_end {n k : Nat} (hn : n < 72) (hk : k ≤ 7) (h : ∀ j, j < k → 2 ^ j < n) (h2 : ¬ 2 ^ k < n) : decide (2 ^ k = n) = isPow n := by
  have h3 : ∀ n, n < 72 → ∀ k, k < 8 → (∀ j, j < k → 2 ^ j < n) → ¬ 2 ^ k < n → decide (2 ^ k = n) = isPow n := by decide +kernel
  exact h3 n hn k (by omega) h h2
theorem power_is (n : Nat) (w : World) (h1 : 3 ≤ n) (h2 : n < 72) :
    Calls Tryd.prog 28 #[.int .i64 n] w fun e w' => e = .returned (.bool (isPow n)) ∧ w = w' := by
  go_enter Tryd.func28, Tryd.ntmps28
  go_wp2
  go_loop [3] (fun p => ∃ k : Nat, k ≤ 7 ∧ p = .int .i64 ((2 ^ k : Nat) : Int) ∧ ∀ j, j < k → 2 ^ j < n) (fun p => 200 - (intOf p).toNat)
  case atStart => exact ⟨0, by omega, rfl, fun j hj => by omega⟩
  case round =>
    obtain ⟨k, hk, rfl, hlow⟩ := hrel
    have HL := Lib.hid hlow
    obtain ⟨x, hx⟩ : ∃ x, 2 ^ k = x := ⟨_, rfl⟩
    have HX := Lib.hid hx
    have HS : Hid (2 ^ (k + 1) = x * 2) := by rw [← hx]; exact Nat.pow_succ ..
    have hx0 : 0 < x := by rw [← hx]; exact Nat.pow_pos (by decide)
    rw [hx]
    clear hx hlow
    by_cases hlt : x < n
    · have hk7 : k + 1 ≤ 7 := by
        rcases Nat.lt_or_ge k 7 with h | h
        · omega
        · have : k = 7 := by omega
          subst this; have := HX.out; omega
      go_wp2
      go_round
      case rel =>
        refine ⟨k + 1, hk7, by rw [HS.out]; go_num, fun j hj => ?_⟩
        rcases Nat.lt_or_ge j k with h | h
        · exact HL.out j h
        · obtain rfl : j = k := by omega
          rw [HX.out]; exact hlt
      case measure => simp [intOf]; omega
    · have he := pow_end h2 hk HL.out (by rw [HX.out]; exact hlt)
      rw [HX.out] at he
      go_wp2
      go_ret
      exact ⟨ret_bool (by rw [← he, Bool.eq_iff_iff]; simp; omega), rfl⟩

/-! Places -/
def plTo (n : Nat) : List Nat := (List.range n).filter fun i => decide (3 ≤ i) && !isPow i
theorem plTo_succ (n : Nat) (h : 3 ≤ n) : plTo (n + 1) = plTo n ++ (if isPow n then [] else [n]) := by
  unfold plTo
  rw [List.range_succ, List.filter_append]
  congr 1
  cases hb : isPow n <;> simp [hb, h]
theorem plTo_length (n : Nat) : (plTo n).length ≤ n := by
  unfold plTo
  exact Nat.le_trans (List.length_filter_le _ _) (by simp)
theorem plTo_all : plTo 72 ++ [1, 2, 4, 8, 16, 32, 64, 0] = pl := by decide +kernel
theorem rel_pl {w wr w1 : World} {B n m : Nat} {v' : Value} {x : Int} (hn : 3 ≤ n) (hp : isPow n = false) (hm : m = (plTo n).length) (ho : w1.ownsRow B 3 1 v' (m + 1) ((plTo n).map V ++ [.int .i64 x])) (hv : x = (n : Nat)) (hb : Below B w wr) (hg : Below B wr w1) :
    w1.ownsRow B 3 1 v' (plTo (n + 1)).length ((plTo (n + 1)).map V) ∧ Below B w w1 := by
  subst hv; subst hm
  rw [plTo_succ n hn, hp]
  exact ⟨by simpa [V] using ho, hb.trans hg⟩
theorem rel_all {w wr w1 : World} {B m : Nat} {v' : Value} (hm : m = (plTo 72).length) (ho : w1.ownsRow B 3 1 v' (m + 8) ((plTo 72).map V ++ [.int .i64 1, .int .i64 2, .int .i64 4, .int .i64 8, .int .i64 16, .int .i64 32, .int .i64 64, .int .i64 0])) (hb : Below B w wr) (hg : Below B wr w1) :
    w1.ownsRow B 3 1 v' 72 (pl.map V) ∧ Below B w w1 := by
  subst hm
  refine ⟨?_, hb.trans hg⟩
  rw [← plTo_all, List.map_append]
  exact ho
theorem cell_eight_new (w : World) (t : TypeId) (a b c d e f g h : Value) : ∀ j u, [a, b, c, d, e, f, g, h][j]? = some u → (w.alloc (.cells #[a, b, c, d, e, f, g, h] t)).cell? ((⟨w.heap.size, 0, none⟩ : Addr).add j) = some u := by
  intro j u hu
  rcases j with _ | _ | _ | _ | _ | _ | _ | _ | j
  all_goals simp at hu
  all_goals subst hu
  all_goals simp [Addr.add, World.cell?_alloc_new]
def PlacesPost (B : Nat) (w : World) (e : Ending) (w' : World) : Prop := ∃ v, e = .returned v ∧ w'.ownsRow B 3 1 v 72 (pl.map V) ∧ Below B w w'

set_option maxRecDepth 100000 in
theorem places_any (w : World) : Calls Tryd.prog 22 #[] w (PlacesPost w.heap.size w) := by
  obtain ⟨i0, hi, hz0, hz1, hz2⟩ := info_parts Tryd.infoInt
  go_enter Tryd.func22, Tryd.ntmps22
  go_wp2
  go_loopw [1, 2] (fun b i wr => ∃ n : Nat, 3 ≤ n ∧ n ≤ 72 ∧ i = .int .i64 n ∧ wr.ownsRow w.heap.size 3 1 b (plTo n).length ((plTo n).map V) ∧ Below w.heap.size w wr) (fun _ i _ => 72 - (intOf i).toNat)
  case atStart => exact ⟨3, by omega, by omega, rfl, by rw [show plTo 3 = [] by decide +kernel]; exact ⟨rfl, Or.inl ⟨rfl, rfl⟩⟩, Below.refl _ _⟩
  case round =>
    obtain ⟨n, hn3, hn, rfl, hown, hb⟩ := hrel
    obtain ⟨m, hm⟩ : ∃ m, (plTo n).length = m := ⟨_, rfl⟩
    have HM := Lib.hid hm
    have hm2 : m ≤ 72 := by have := plTo_length n; omega
    rw [hm] at hown
    clear hm
    by_cases hlt : n < 72
    · cases hp : isPow n with
      | true =>
        have HP := Lib.hid hp
        have HO := Lib.hid hown
        clear hp hown
        go_wp2_with (go_at_call 28; refine (power_is n _ hn3 hlt).mono ?_; rintro e w' ⟨rfl, rfl⟩; rw [HP.out])
        go_roundw
        case rel => exact ⟨n + 1, by omega, by omega, by go_num, by rw [plTo_succ n hn3, HP.out]; simpa [HM.out] using HO.out, hb⟩
        case measure => simp [intOf]; omega
      | false =>
        have HP := Lib.hid hp
        clear hp
        go_wp2_with (first | (go_at_call 28; refine (power_is n _ hn3 hlt).mono ?_; rintro e w' ⟨rfl, rfl⟩; rw [HP.out]) | (at_builtin; refine wpList_append_own _ rfl _ _ 40 rfl w.heap.size 3 i0 (.int .i64 0) 1 8 Tryd.underlying40 hi hz0 hz1 hz2 rfl (by decide) _ _ _ rfl (hown.alloc _) ⟨wr.heap.size, 0, none⟩ 1 1 [.int .i64 (n : Int)] rfl rfl ?c1 ?c2 ?c3 ?c4 ?c5 ?_))
        case c1 => exact cell_one_new _ _ _
        case c2 => intro u hu; simp at hu; subst hu; rfl
        case c3 => unfold maxLen; omega
        case c4 => omega
        case c5 => have := hb.size; simp; omega
        intro v' w1 hown1 hgrow _
        have HR := Lib.hid (rel_pl hn3 HP.out HM.out.symm hown1 rfl hb (own_below hown hb.size hgrow))
        clear hown1 hgrow hown
        go_wp2
        go_roundw
        case rel => exact ⟨n + 1, by omega, by omega, by go_num, HR.out.1, HR.out.2⟩
        case measure => simp [intOf]; omega
    · obtain rfl : n = 72 := by omega
      go_wp2_with (at_builtin; refine wpList_append_own _ rfl _ _ 40 rfl w.heap.size 3 i0 (.int .i64 0) 1 8 Tryd.underlying40 hi hz0 hz1 hz2 rfl (by decide) _ _ _ rfl (hown.alloc _) ⟨wr.heap.size, 0, none⟩ 8 8 [.int .i64 1, .int .i64 2, .int .i64 4, .int .i64 8, .int .i64 16, .int .i64 32, .int .i64 64, .int .i64 0] rfl rfl ?c1 ?c2 ?c3 ?c4 ?c5 ?_)
      case c1 => exact cell_eight_new _ _ _ _ _ _ _ _ _ _
      case c2 => intro u hu; simp at hu; rcases hu with rfl | rfl | rfl | rfl | rfl | rfl | rfl | rfl <;> rfl
      case c3 => unfold maxLen; omega
      case c4 => omega
      case c5 => have := hb.size; simp; omega
      intro v' w1 hown1 hgrow _
      have HR := Lib.hid (rel_all HM.out.symm hown1 hb (own_below hown hb.size hgrow))
      clear hown1 hgrow hown
      go_wp2
      go_ret
      exact ⟨_, rfl, HR.out.1, HR.out.2⟩

end Go.Proofs.YtcjhojedenpmbaaDoor
