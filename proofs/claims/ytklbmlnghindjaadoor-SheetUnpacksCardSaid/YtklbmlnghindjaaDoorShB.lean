/- The book's comparisons of pages and of records. -/
import Derived.Test.YtklbmlnghindjaaDoorShR3
import Derived.Laws.StructEq
import Derived.Deep.QuietTactic
import Derived.BigQuiet
namespace Go.Proofs.YtklbmlnghindjaaDoor
set_option maxRecDepth 100000
open Go.RowKit

theorem below_drewX {B : Nat} {w wr : World} (h : Below B w wr) (q : Nat) : Below B w (wr.drewN q) := ⟨h.os, h.tape, h.output, h.size, h.block⟩
theorem cell_of_rowX {w : World} {B n z : Nat} {v : Value} {xs : List Value} {e : TypeId} {g cap : Nat} (h : w.ownsRow B e z v n xs) (hv : v = .slice (some ⟨g, 0, none⟩) n cap) (j : Nat) (u : Value) (hj : xs[j]? = some u) : w.cell? ⟨g, j, none⟩ = some u := by
  have h1 := h.cells (g := g) (by rw [hv]; rfl) j u hj
  cases j with
  | zero => simpa [Addr.add] using h1
  | succ k => simpa [Addr.add] using h1

/-- a slice of texts, wherever it lies -/
def TsAt (w : World) (v : Value) (l : List ByteArray) : Prop := ∃ (a : Option Addr) (cap : Nat), v = .slice a l.length cap ∧ ∀ k (hk : k < l.length), ∃ g o, a = some ⟨g, o, none⟩ ∧ w.cell? ⟨g, o + k, none⟩ = some (.string l[k])
theorem TsAt.below {w w' : World} {v : Value} {l : List ByteArray} (h : TsAt w v l) (hb : Below w.heap.size w w') : TsAt w' v l := by
  obtain ⟨a, cap, hv, hk⟩ := h
  refine ⟨a, cap, hv, fun k h => ?_⟩
  obtain ⟨g, o, ha, h1⟩ := hk k h
  exact ⟨g, o, ha, (hb.cell (p := ⟨g, o + k, none⟩) (cell_lt h1)).trans h1⟩
theorem TsAt.own {w : World} {B n : Nat} {v : Value} {l : List ByteArray} (hn : n = l.length) (h : w.ownsRow B 9 1 v n (strV l)) : TsAt w v l := by
  subst hn
  have h0 := h
  rcases h.2 with ⟨hv, hz⟩ | ⟨g, cap, cur, hv, _⟩
  · exact ⟨none, 0, by rw [hv, hz], fun k hk => absurd hk (by omega)⟩
  · exact ⟨_, cap, hv, fun k hk => ⟨g, 0, rfl, by rw [Nat.zero_add]; exact cell_of_rowX h0 hv k _ (by unfold strV; simp [hk])⟩⟩

/-- a slice of records, as a value -/
def RsAt (w : World) (v : Value) (l : List Rc) : Prop := ∃ (a : Option Addr) (cap : Nat), v = .slice a l.length cap ∧ XsAt w a l
theorem RsAt.below {w w' : World} {v : Value} {l : List Rc} (h : RsAt w v l) (hb : Below w.heap.size w w') : RsAt w' v l := by
  obtain ⟨a, cap, hv, hk⟩ := h
  exact ⟨a, cap, hv, hk.below hb⟩
theorem RsAt.own {w : World} {B n : Nat} {v : Value} {l : List Rc} (hn : n = l.length) (h : w.ownsRow B 32 3 v n (flatX l)) : RsAt w v l := by
  subst hn
  have h0 := h
  rcases h.2 with ⟨hv, hz⟩ | ⟨g, cap, cur, hv, _, hg, _⟩
  · exact ⟨none, 0, by rw [hv, hz], fun hne => absurd (List.eq_nil_of_length_eq_zero hz) hne⟩
  · refine ⟨_, cap, hv, fun _ => ⟨g, 0, rfl, (Array.getElem?_eq_some_iff.1 hg).1, fun i hi j u hj => ?_⟩⟩
    have hj3 : j < 3 := by
      have h4 := (List.getElem?_eq_some_iff.1 hj).1
      rw [Rc.cells_len] at h4; exact h4
    have h5 := cell_of_rowX h0 hv (i * 3 + j) u (by rw [flatX_get l i j hi hj3]; exact hj)
    rw [Nat.zero_add]
    cases j with
    | zero => simpa [Addr.add] using h5
    | succ k => simpa [Addr.add] using h5

theorem eql_rec (x : Rc) (w : World) : Sem.run Tryd.prog (binOp .eql 32 (.agg #[.int .i64 x.k, .int .i64 x.a, .int .i64 x.b]) (.agg #[.int .i64 x.k, .int .i64 x.a, .int .i64 x.b])) w = .ok (.bool true) w := by
  rw [run_eql_struct, run_equalIn_agg _ _ _ _ _ (by kernel_rfl) (by kernel_rfl)]
  simp only [Program.fieldsOf, Tryd.underlying32]
  simp [Op.eqFields, part, isAgg, run_underlying Tryd.underlying3, run_equalIn_int _ _ _ _ _ _ _ Tryd.underlying3]

theorem book_recs (w : World) (u v : Value) (l : List Rc) (hz : l.length ≤ 1000000) (hu : RsAt w u l) (hv : RsAt w v l) :
    Calls Tryd.prog 9 #[u, v] w fun e w' => e = .returned (.bool true) ∧ Below w.heap.size w w' := by
  obtain ⟨a, cap, rfl, hs⟩ := hu
  obtain ⟨a', cap', rfl, hs'⟩ := hv
  obtain ⟨n, hn⟩ : ∃ n, l.length = n := ⟨_, rfl⟩
  have HS := Lib.hid hs
  have HS' := Lib.hid hs'
  have HN := Lib.hid hn
  clear hs hs'
  rw [hn] at hz ⊢
  clear hn
  go_enter Tryd.func9, Tryd.ntmps9
  go_wp2_with fail
  go_loopw [5, 6] (fun b i wr => ∃ k : Nat, k ≤ n ∧ i = .int .i64 k ∧ b = .bool true ∧ Below w.heap.size w wr) (fun _ i _ => n + 1 - (intOf i).toNat)
  case atStart => exact ⟨0, Nat.zero_le _, rfl, rfl, Below.refl _ _⟩
  case round =>
    obtain ⟨k, hk, rfl, rfl, hb⟩ := hrel
    have HB := Lib.hid hb
    by_cases hlt : k < n
    · have hkl : k < l.length := by have := HN.out; omega
      have hne : l ≠ [] := by intro h0; rw [h0] at hkl; exact absurd hkl (Nat.not_lt_zero _)
      obtain ⟨g, o, rfl, hg, h1⟩ := HS.out hne
      obtain ⟨g', o', rfl, hg', h3⟩ := HS'.out hne
      have r1 := h1 k hkl
      have r3 := h3 k hkl
      generalize l[k] = x at r1 r3
      have c0 : w.cell? ⟨g, o + k * 3, none⟩ = some (.int .i64 x.k) := r1 0 _ rfl
      have c1 : w.cell? ⟨g, o + k * 3 + 1, none⟩ = some (.int .i64 x.a) := r1 1 _ rfl
      have c2 : w.cell? ⟨g, o + k * 3 + 2, none⟩ = some (.int .i64 x.b) := r1 2 _ rfl
      have d0 : w.cell? ⟨g', o' + k * 3, none⟩ = some (.int .i64 x.k) := r3 0 _ rfl
      have d1 : w.cell? ⟨g', o' + k * 3 + 1, none⟩ = some (.int .i64 x.a) := r3 1 _ rfl
      have d2 : w.cell? ⟨g', o' + k * 3 + 2, none⟩ = some (.int .i64 x.b) := r3 2 _ rfl
      have e0 := (hb.cell (p := ⟨g, o + k * 3, none⟩) (cell_lt c0)).trans c0
      have e1 := (hb.cell (p := ⟨g, o + k * 3 + 1, none⟩) (cell_lt c1)).trans c1
      have e2 := (hb.cell (p := ⟨g, o + k * 3 + 2, none⟩) (cell_lt c2)).trans c2
      have f0 := (hb.cell (p := ⟨g', o' + k * 3, none⟩) (cell_lt d0)).trans d0
      have f1 := (hb.cell (p := ⟨g', o' + k * 3 + 1, none⟩) (cell_lt d1)).trans d1
      have f2 := (hb.cell (p := ⟨g', o' + k * 3 + 2, none⟩) (cell_lt d2)).trans d2
      have heq : ∀ w, Sem.run Tryd.prog (binOp .eql 32 (.agg #[.int .i64 x.k, .int .i64 x.a, .int .i64 x.b]) (.agg #[.int .i64 x.k, .int .i64 x.a, .int .i64 x.b])) w = .ok (.bool true) w := fun w => eql_rec x w
      clear h1 h3 r1 r3 c0 c1 c2 d0 d1 d2 hb hkl hne hg hg'
      go_wp2_with fail
      go_quiet (fail)
      go_wp2_with fail
      go_roundw
      case rel => exact ⟨k + 1, by omega, by go_num, rfl, below_drewX HB.out _⟩
      case measure => simp [intOf]; omega
    · obtain rfl : k = n := by omega
      clear hb
      go_wp2_with fail
      go_ret
      exact ⟨rfl, HB.out⟩

end Go.Proofs.YtklbmlnghindjaaDoor
