/- Geometries: what the document asks of Check, Snaps, Most, Raw, Bound, Spread, Number, At, and what follows from it. -/
import Derived.Test.YtejgdaekomdhlaaKit
namespace Go.Proofs.Ytejgdaekomdhlaa
set_option maxRecDepth 100000
open Go.RowKit

/-- a geometry's cells, and an address's -/
def gv (b l y n s r : Int) : Array Value := #[.int .i64 b, .int .i64 l, .int .i64 y, .int .i64 n, .int .i64 s, .int .i64 r]
def av (x z p : Int) : Array Value := #[.int .i64 x, .int .i64 z, .int .i64 p]
theorem gv_one (b l y n s r : Int) : (gv b l y n s r).all (·.oneCell') = true := by
  rw [Array.all_eq_true_iff_forall_mem]
  intro v hv
  simp [gv] at hv
  rcases hv with rfl | rfl | rfl | rfl | rfl | rfl <;> rfl
theorem av_one (x z p : Int) : (av x z p).all (·.oneCell') = true := by
  rw [Array.all_eq_true_iff_forall_mem]
  intro v hv
  simp [av] at hv
  rcases hv with rfl | rfl | rfl <;> rfl
def mostG (b l s : Int) : Int := 3 * l * (b - s - 6) / 2
def snapsG (b y n : Int) : Int := (6 * n + 10 * b + (y - 1)) / y
/-- what may be told of a geometry ahead of its sectors and its snapshot -/
def PreG (b l y n s r : Int) : Prop := 8 ≤ b ∧ b ≤ 64 ∧ 6 ≤ l ∧ l ≤ 64 ∧ 16 ≤ y ∧ y ≤ 256 ∧ y % 8 = 0 ∧ 0 ≤ s ∧ s ≤ 16 ∧ s ≤ b - 8 ∧ 2 ≤ r ∧ r ≤ 1000 ∧ 1 ≤ n ∧ n ≤ 4096
def OkG (b l y n s r : Int) : Prop := PreG b l y n s r ∧ n ≤ mostG b l s ∧ snapsG b y n ≤ l - 4
instance (b l y n s r : Int) : Decidable (PreG b l y n s r) := by unfold PreG; infer_instance
instance (b l y n s r : Int) : Decidable (OkG b l y n s r) := by unfold OkG; infer_instance
def chkG (b l y n s r : Int) : Int := if OkG b l y n s r then 0 else 60
def rawG (y : Int) : Int := 9 * (y / 8 + 3)
def boundG (b l y n s : Int) : Int := 8 * (b + s + 4) * (16 * l + n + 2 * snapsG b y n + 16)
def spreadG (b r : Int) : Int := r + 8 * (b + 1)
def HasG (b l x z p : Int) : Prop := 0 ≤ x ∧ x < b ∧ 0 ≤ z ∧ z < l ∧ 0 ≤ p ∧ p < 3
instance (b l x z p : Int) : Decidable (HasG b l x z p) := by unfold HasG; infer_instance
def hasB (b l x z p : Int) : Bool := decide (HasG b l x z p)
theorem hasB_iff (b l x z p : Int) : hasB b l x z p = true ↔ HasG b l x z p := decide_eq_true_iff
def numG (l x z p : Int) : Int := (x * l + z) * 3 + p

/-- bounds of a product, for a walk that meets it -/
theorem mul_bd {a c A C : Int} (h0 : 0 ≤ a) (h1 : a ≤ A) (h2 : 0 ≤ c) (h3 : c ≤ C) : 0 ≤ a * c ∧ a * c ≤ A * C :=
  ⟨Int.mul_nonneg h0 h2, Int.mul_le_mul h1 h3 h2 (by omega)⟩
theorem pre_most {b l y n s r : Int} (h : PreG b l y n s r) : 0 ≤ 3 * l * (b - s - 6) ∧ 3 * l * (b - s - 6) ≤ 12000 := by
  obtain ⟨h1, h2, h3, h4, h5, h6, h7, h8, h9, h10, h11, h12, h13, h14⟩ := h
  have := mul_bd (a := 3 * l) (c := b - s - 6) (A := 192) (C := 58) (by omega) (by omega) (by omega) (by omega)
  omega
theorem most_bd {b l y n s r : Int} (h : PreG b l y n s r) : 0 ≤ mostG b l s ∧ mostG b l s ≤ 6000 := by
  have := pre_most h
  unfold mostG; omega
/-- so many pages are enough, and no fewer -/
theorem snaps_iff {b y n : Int} (hy : 1 ≤ y) (k : Int) : k * y < 6 * n + 10 * b ↔ k < snapsG b y n := by
  unfold snapsG
  constructor
  · intro h
    have : k + 1 ≤ (6 * n + 10 * b + (y - 1)) / y := by
      rw [Int.le_ediv_iff_mul_le (by omega), Int.add_mul]
      omega
    omega
  · intro h
    have h2 : k + 1 ≤ (6 * n + 10 * b + (y - 1)) / y := by omega
    rw [Int.le_ediv_iff_mul_le (by omega), Int.add_mul] at h2
    omega
theorem snaps_bd {b l y n s r : Int} (h : PreG b l y n s r) : 1 ≤ snapsG b y n ∧ snapsG b y n ≤ 1600 := by
  obtain ⟨h1, h2, h3, h4, h5, h6, h7, h8, h9, h10, h11, h12, h13, h14⟩ := h
  constructor
  · have := (snaps_iff (b := b) (y := y) (n := n) (by omega) 0).1 (by omega)
    omega
  · have h : ¬ 1600 < snapsG b y n := by
      intro hc
      have := (snaps_iff (b := b) (y := y) (n := n) (by omega) 1600).2 hc
      omega
    omega
theorem ok_pre {b l y n s r : Int} (h : OkG b l y n s r) : PreG b l y n s r := h.1
theorem bound_bd {b l y n s r : Int} (h : PreG b l y n s r) : 0 ≤ 8 * (b + s + 4) * (16 * l + n + 2 * snapsG b y n + 16) ∧ 8 * (b + s + 4) * (16 * l + n + 2 * snapsG b y n + 16) ≤ 672 * 10000 := by
  have hs := snaps_bd h
  obtain ⟨h1, h2, h3, h4, h5, h6, h7, h8, h9, h10, h11, h12, h13, h14⟩ := h
  exact mul_bd (by omega) (by omega) (by omega) (by omega)

/-- the number and the address, there and back -/
theorem num_line {l x z p : Int} (hz : 0 ≤ z) (hzl : z < l) (hp : 0 ≤ p) (hp3 : p < 3) : numG l x z p / (3 * l) = x ∧ numG l x z p / 3 % l = z ∧ numG l x z p % 3 = p := by
  unfold numG
  have e3 : ((x * l + z) * 3 + p) / 3 = x * l + z := by omega
  have em : ((x * l + z) * 3 + p) % 3 = p := by omega
  refine ⟨?_, ?_, em⟩
  · rw [← Int.ediv_ediv_of_nonneg (by omega : (0 : Int) ≤ 3), e3, Int.add_comm, Int.add_mul_ediv_right _ _ (by omega), Int.ediv_eq_zero_of_lt hz hzl]; omega
  · rw [e3, Int.add_comm, Int.add_mul_emod_self_right, Int.emod_eq_of_lt hz hzl]
theorem num_lt {b l x z p : Int} (h : HasG b l x z p) : 0 ≤ numG l x z p ∧ numG l x z p < b * l * 3 := by
  obtain ⟨h1, h2, h3, h4, h5, h6⟩ := h
  unfold numG
  have hm : 0 ≤ x * l := Int.mul_nonneg h1 (by omega)
  have hx : (x + 1) * l ≤ b * l := Int.mul_le_mul_of_nonneg_right (by omega) (by omega)
  rw [Int.add_mul] at hx
  omega
theorem at_has {b l n : Int} (hl : 0 < l) (h0 : 0 ≤ n) (h1 : n < b * l * 3) : HasG b l (n / (3 * l)) (n / 3 % l) (n % 3) ∧ numG l (n / (3 * l)) (n / 3 % l) (n % 3) = n := by
  have hq : n / (3 * l) = n / 3 / l := (Int.ediv_ediv_of_nonneg (by omega)).symm
  have hm := Int.emod_add_mul_ediv (n / 3) l
  have hml := Int.emod_lt_of_pos (n / 3) hl
  have hm0 := Int.emod_nonneg (n / 3) (b := l) (by omega)
  have hq0 : 0 ≤ n / 3 / l := Int.ediv_nonneg (by omega) (by omega)
  rw [hq]
  refine ⟨⟨hq0, ?_, hm0, hml, by omega, by omega⟩, ?_⟩
  · rw [Int.ediv_lt_iff_lt_mul hl]
    omega
  · unfold numG
    rw [Int.mul_comm (n / 3 / l) l]
    omega
/-- two have room in one: of d numbers that are together at most s the two least ones are at most s, if d is so great -/
theorem room_enough {b l y n s r : Int} (h : OkG b l y n s r) (m : Int) (hm : (b - s - 4) * m ≤ 2 * n) : m ≤ 3 * l := by
  obtain ⟨⟨h1, h2, h3, h4, h5, h6, h7, h8, h9, h10, h11, h12, h13, h14⟩, h15, h16⟩ := h
  have hd : 4 ≤ b - s - 4 := by omega
  have h2n : 2 * n ≤ 3 * l * (b - s - 6) := by unfold mostG at h15; omega
  have hlt : 3 * l * (b - s - 6) ≤ 3 * l * (b - s - 4) := Int.mul_le_mul_of_nonneg_left (by omega) (by omega)
  have h3 : (b - s - 4) * m ≤ (b - s - 4) * (3 * l) := by
    rw [Int.mul_comm (b - s - 4) (3 * l)]
    omega
  exact Int.le_of_mul_le_mul_left h3 (by omega)

end Go.Proofs.Ytejgdaekomdhlaa
