/- Texts of one claim, merged: CeL8. -/
import Derived.Test.YtjmoecfgpfdncaaDoorM17
import Derived.Test.YtjmoecfgpfdncaaDoorM14
import Derived.Test.YtjmoecfgpfdncaaDoorM15
import Derived.Test.YtjmoecfgpfdncaaDoorM3
import Derived.Deep.DeepCutAuto
import Derived.Deep.CutBlock

/- Layer 8, the laws: CellTwoPass. -/
namespace Go.Proofs.YtjmoecfgpfdncaaDoor
set_option maxRecDepth 100000
open Go.RowKit

theorem infoI8 : (Tryd.prog.info? 3).map (fun i => (i.zero, i.size, i.bytes)) = some (some (.int .i64 0), 1, 8) := by kernel_rfl
/-- the passes of each line, when i steps are done -/
def pasV (L i : Nat) : Array Value := ((List.range L).map fun j => Value.int .i64 ((afterC L i j : Nat) : Int)).toArray
theorem pas_size (L i : Nat) : (pasV L i).size = L := by simp [pasV]
theorem pas_cell {L i j : Nat} (h : j < L) : (pasV L i)[j]? = some (.int .i64 ((afterC L i j : Nat) : Int)) := by simp [pasV, h]
theorem pas_zero (L : Nat) : madeCells #[Value.int .i64 0] L = pasV L 0 := by
  have hs : (madeCells #[Value.int .i64 0] L).size = L := by simp [madeCells]
  apply Array.ext_getElem?
  intro j
  by_cases h : j < L
  · rw [madeCells_one _ _ _ h, pas_cell h, after_none]; rfl
  · rw [Array.getElem?_eq_none (by omega), Array.getElem?_eq_none (by rw [pas_size]; omega)]
theorem pas_next {L i l : Nat} {f : Bool} (hi : i < 2 * L) (hst : stepC L i = (l, f)) : (pasV L i).setIfInBounds l (.int .i64 (((afterC L i l : Nat) : Int) + 1)) = pasV L (i + 1) := by
  have hs : (pasV L i).size = L := pas_size L i
  apply Array.ext_getElem?
  intro j
  by_cases h : j < L
  · rw [pas_cell h, after_succ hi h, hst, Array.getElem?_setIfInBounds]
    by_cases hj : l = j
    · subst hj
      rw [if_pos rfl, if_pos (by omega), if_pos rfl]; rfl
    · rw [if_neg hj, if_neg hj, pas_cell h]; rfl
  · rw [Array.getElem?_eq_none (by rw [Array.size_setIfInBounds]; omega), Array.getElem?_eq_none (by rw [pas_size]; omega)]
/-- what holds from round to round -/
structure PQ (w1 : World) (o : Nat) (F : Nat → Prop) (s : St) (g L i : Nat) (w : World) : Prop where
  ex : EX w1 o F s w
  ng : ¬ F g
  lo : w1.heap.size ≤ g
  pas : Blk w g (pasV L i) 3
theorem PQ.after {w1 w w' : World} {o : Nat} {F : Nat → Prop} {s : St} {g L i : Nat} (h : PQ w1 o F s g L i w) (hb : Below w.heap.size w w') : PQ w1 o F s g L i w' :=
  ⟨h.ex.after hb, h.ng, h.lo, h.pas.after hb⟩
/-- what holds inside of a round -/
structure PT (w1 : World) (o : Nat) (F : Nat → Prop) (s : St) (g L i obk : Nat) (x k a b : Int) (w : World) : Prop where
  q : PQ w1 o F s g L i w
  nb : ¬ F obk
  own : Blk w obk (fv x k a b) 23
theorem PT.ex {w1 w : World} {o : Nat} {F : Nat → Prop} {s : St} {g L i obk : Nat} {x k a b : Int} (h : PT w1 o F s g L i obk x k a b w) : EX w1 o F s w := h.q.ex
theorem PT.after {w1 w w' : World} {o : Nat} {F : Nat → Prop} {s : St} {g L i obk : Nat} {x k a b : Int} (h : PT w1 o F s g L i obk x k a b w) (hb : Below w.heap.size w w') : PT w1 o F s g L i obk x k a b w' :=
  ⟨h.q.after hb, h.nb, h.own.after hb⟩
theorem PT.act {w1 w w' : World} {o : Nat} {F F' : Nat → Prop} {s t : St} {g L i obk : Nat} {x k a b : Int} (h : PT w1 o F s g L i obk x k a b w) (hc : CellAt w' o F' t) (hg : Grows F F' w) (ho : Only F w w') : PT w1 o F' t g L i obk x k a b w' := by
  have h1 : ∀ (d : Nat) (cs : Array Value) (ty : TypeId), ¬ F d → Blk w d cs ty → Blk w' d cs ty := by
    intro d cs ty hd hk
    have hl := hk.lt
    unfold Blk at *
    rw [ho.block d hl hd]; exact hk
  exact ⟨⟨h.q.ex.act hc hg ho, fun hf => (hg _ hf).elim h.q.ng (fun hx => absurd h.q.pas.lt (by omega)), h.q.lo, h1 _ _ _ h.q.ng h.q.pas⟩, fun hf => (hg _ hf).elim h.nb (fun hx => absurd h.own.lt (by omega)), h1 _ _ _ h.nb h.own⟩
theorem PQ.step {w1 w : World} {o : Nat} {F : Nat → Prop} {s : St} {g L i l : Nat} {f : Bool} (h : PQ w1 o F s g L i w) (hi : i < 2 * L) (hst : stepC L i = (l, f)) : PQ w1 o F s g L (i + 1) (w.setCell ⟨g, l, none⟩ (.int .i64 (((afterC L i l : Nat) : Int) + 1))) :=
  ⟨⟨h.ex.cell.keep (fun k hk => Below.heap_setCell _ _ _ _ (fun he => h.ng (by have he' : k = g := he; rw [← he']; exact hk))), h.ex.new, h.ex.low.setCell (p := ⟨g, l, none⟩) h.lo _⟩, h.ng, h.lo, h.pas.set l _ (pas_next hi hst)⟩
/-- the step as it is done -/
structure SpTP (d : Tmp) (w1 : World) (o : Nat) (t : St) (g L i obk : Nat) (x k a b ec : Int) (j : Nat) (A : Act) (w : World) : Prop where
  one : j = 5 → A.tmps.getD d undef = .int .i64 ec ∧ ∃ F2, PT w1 o F2 t g L i obk x k a b w
theorem SpTP.ext (d : Tmp) (w1 : World) (o : Nat) (t : St) (g L i obk : Nat) (x k a b ec : Int) : ∀ (j : Nat) (A A' : Act) (w w' : World), SpTP d w1 o t g L i obk x k a b ec j A w → (∀ e ∈ (if j = 5 then [d] else []), A'.tmps.getD e undef = A.tmps.getD e undef) → ((∃ F2, PT w1 o F2 t g L i obk x k a b w) → ∃ F2, PT w1 o F2 t g L i obk x k a b w') → SpTP d w1 o t g L i obk x k a b ec j A' w' := by
  rintro j A A' w w' ⟨f⟩ hx hT
  exact ⟨fun h => ⟨(hx d (by rw [if_pos h]; exact List.mem_singleton_self _)).trans (f h).1, hT (f h).2⟩⟩
/-- the line that is hurt, when i of k steps are done -/
def hurtV (L k : Nat) (kk : Int) (i : Nat) : Int := if i = k ∧ hurtsB kk = true then ((stepC L (k - 1)).1 : Nat) else -1
theorem step_kinds {L i l : Nat} {f : Bool} (h1 : 1 ≤ L) (hi : i < 2 * L) (hst : stepC L i = (l, f)) :
    (i = 0 ∧ l = 0 ∧ f = false) ∨ (¬ i = 0 ∧ i % 2 = 1 ∧ i + 1 < 2 * L ∧ l = (i + 1) / 2 ∧ f = false) ∨ (¬ i = 0 ∧ i % 2 = 1 ∧ i + 1 = 2 * L ∧ l + 1 = L ∧ f = true) ∨ (¬ i = 0 ∧ i % 2 = 0 ∧ l + 1 = i / 2 ∧ f = true) := by
  unfold stepC at hst
  by_cases a : i = 0
  · rw [if_pos a] at hst
    simp only [Prod.mk.injEq] at hst
    exact Or.inl ⟨a, hst.1.symm, hst.2.symm⟩
  · rw [if_neg a] at hst
    by_cases c : i + 1 = 2 * L
    · rw [if_pos c] at hst
      simp only [Prod.mk.injEq] at hst
      exact Or.inr (Or.inr (Or.inl ⟨a, by omega, c, by omega, hst.2.symm⟩))
    · rw [if_neg c] at hst
      by_cases e : i % 2 = 1
      · rw [if_pos e] at hst
        simp only [Prod.mk.injEq] at hst
        exact Or.inr (Or.inl ⟨a, e, by omega, hst.1.symm, hst.2.symm⟩)
      · rw [if_neg e] at hst
        simp only [Prod.mk.injEq] at hst
        exact Or.inr (Or.inr (Or.inr ⟨a, by omega, by omega, hst.2.symm⟩))
theorem tv_int (n : Nat) : (n : Int).tdiv 2 = ((n / 2 : Nat) : Int) ∧ (n : Int).tmod 2 = ((n % 2 : Nat) : Int) := by
  rw [Int.tdiv_eq_ediv_of_nonneg (by omega), Int.tmod_eq_emod_of_nonneg (by omega)]
  omega
/-- what each operation of the region TPFoggy leaves -/
def vsTPFoggy (o l : Nat) (ox ok oa ob ec : Int) : List (Option (Tmp × Value)) :=
  [some (100, .pointer (some ⟨o, 0, none⟩)), some (101, .int .i64 (l : Int)), some (102, .int .i64 (l : Int)), some (103, .agg (tv3 (pgS l) (pgS (l + 1)) (pgS (l + 2)))), some (104, .agg (fv ox ok oa ob)), none, some (15, .int .i64 ec)]
/-- the frame while the region TPFoggy runs -/
def BaseTPFoggy (o l obk : Nat) (arr0 : Array Value) (a : Act) : Prop := ∃ u : Nat → Value, a = ⟨#[arr0.getD 0 undef, arr0.getD 1 undef, arr0.getD 2 undef, arr0.getD 3 undef, arr0.getD 4 undef, arr0.getD 5 undef, arr0.getD 6 undef, .pointer (some ⟨o, 0, none⟩), arr0.getD 8 undef, arr0.getD 9 undef, arr0.getD 10 undef, .int .i64 (l : Int), arr0.getD 12 undef, arr0.getD 13 undef, .pointer (some ⟨obk, 0, none⟩), u 15, arr0.getD 16 undef, arr0.getD 17 undef, arr0.getD 18 undef, arr0.getD 19 undef, arr0.getD 20 undef, arr0.getD 21 undef, arr0.getD 22 undef, arr0.getD 23 undef, arr0.getD 24 undef, arr0.getD 25 undef, arr0.getD 26 undef, arr0.getD 27 undef, arr0.getD 28 undef, arr0.getD 29 undef, arr0.getD 30 undef, arr0.getD 31 undef, arr0.getD 32 undef, arr0.getD 33 undef, arr0.getD 34 undef, arr0.getD 35 undef, arr0.getD 36 undef, arr0.getD 37 undef, arr0.getD 38 undef, arr0.getD 39 undef, arr0.getD 40 undef, arr0.getD 41 undef, arr0.getD 42 undef, arr0.getD 43 undef, arr0.getD 44 undef, arr0.getD 45 undef, arr0.getD 46 undef, arr0.getD 47 undef, arr0.getD 48 undef, arr0.getD 49 undef, arr0.getD 50 undef, arr0.getD 51 undef, arr0.getD 52 undef, arr0.getD 53 undef, arr0.getD 54 undef, arr0.getD 55 undef, arr0.getD 56 undef, arr0.getD 57 undef, arr0.getD 58 undef, arr0.getD 59 undef, arr0.getD 60 undef, arr0.getD 61 undef, arr0.getD 62 undef, arr0.getD 63 undef, arr0.getD 64 undef, arr0.getD 65 undef, arr0.getD 66 undef, arr0.getD 67 undef, arr0.getD 68 undef, arr0.getD 69 undef, arr0.getD 70 undef, arr0.getD 71 undef, arr0.getD 72 undef, arr0.getD 73 undef, arr0.getD 74 undef, arr0.getD 75 undef, arr0.getD 76 undef, arr0.getD 77 undef, arr0.getD 78 undef, arr0.getD 79 undef, arr0.getD 80 undef, arr0.getD 81 undef, arr0.getD 82 undef, arr0.getD 83 undef, arr0.getD 84 undef, arr0.getD 85 undef, arr0.getD 86 undef, arr0.getD 87 undef, arr0.getD 88 undef, arr0.getD 89 undef, arr0.getD 90 undef, arr0.getD 91 undef, arr0.getD 92 undef, arr0.getD 93 undef, arr0.getD 94 undef, arr0.getD 95 undef, arr0.getD 96 undef, arr0.getD 97 undef, arr0.getD 98 undef, arr0.getD 99 undef, u 100, u 101, u 102, u 103, u 104, u 105, arr0.getD 106 undef, arr0.getD 107 undef, arr0.getD 108 undef, arr0.getD 109 undef, arr0.getD 110 undef, arr0.getD 111 undef, arr0.getD 112 undef, arr0.getD 113 undef, arr0.getD 114 undef, arr0.getD 115 undef, arr0.getD 116 undef, arr0.getD 117 undef, arr0.getD 118 undef, arr0.getD 119 undef, arr0.getD 120 undef, arr0.getD 121 undef, arr0.getD 122 undef, arr0.getD 123 undef, arr0.getD 124 undef, arr0.getD 125 undef, arr0.getD 126 undef, arr0.getD 127 undef, arr0.getD 128 undef, arr0.getD 129 undef, arr0.getD 130 undef, arr0.getD 131 undef, arr0.getD 132 undef, arr0.getD 133 undef, arr0.getD 134 undef, arr0.getD 135 undef, arr0.getD 136 undef, arr0.getD 137 undef, arr0.getD 138 undef, arr0.getD 139 undef, arr0.getD 140 undef, arr0.getD 141 undef, arr0.getD 142 undef, arr0.getD 143 undef, arr0.getD 144 undef, arr0.getD 145 undef, arr0.getD 146 undef, arr0.getD 147 undef, arr0.getD 148 undef, arr0.getD 149 undef, arr0.getD 150 undef, arr0.getD 151 undef, arr0.getD 152 undef, arr0.getD 153 undef, arr0.getD 154 undef, arr0.getD 155 undef, arr0.getD 156 undef, arr0.getD 157 undef, arr0.getD 158 undef, arr0.getD 159 undef, arr0.getD 160 undef, arr0.getD 161 undef, arr0.getD 162 undef, arr0.getD 163 undef, arr0.getD 164 undef, arr0.getD 165 undef, arr0.getD 166 undef, arr0.getD 167 undef, arr0.getD 168 undef, arr0.getD 169 undef, arr0.getD 170 undef, arr0.getD 171 undef, arr0.getD 172 undef, arr0.getD 173 undef, arr0.getD 174 undef, arr0.getD 175 undef, arr0.getD 176 undef, arr0.getD 177 undef, arr0.getD 178 undef, arr0.getD 179 undef, arr0.getD 180 undef, arr0.getD 181 undef, arr0.getD 182 undef, arr0.getD 183 undef], []⟩
theorem BaseTPFoggy.of {o l obk : Nat} {arr0 : Array Value} (arr : Array Value) (h : arr = #[arr0.getD 0 undef, arr0.getD 1 undef, arr0.getD 2 undef, arr0.getD 3 undef, arr0.getD 4 undef, arr0.getD 5 undef, arr0.getD 6 undef, .pointer (some ⟨o, 0, none⟩), arr0.getD 8 undef, arr0.getD 9 undef, arr0.getD 10 undef, .int .i64 (l : Int), arr0.getD 12 undef, arr0.getD 13 undef, .pointer (some ⟨obk, 0, none⟩), arr.getD 15 undef, arr0.getD 16 undef, arr0.getD 17 undef, arr0.getD 18 undef, arr0.getD 19 undef, arr0.getD 20 undef, arr0.getD 21 undef, arr0.getD 22 undef, arr0.getD 23 undef, arr0.getD 24 undef, arr0.getD 25 undef, arr0.getD 26 undef, arr0.getD 27 undef, arr0.getD 28 undef, arr0.getD 29 undef, arr0.getD 30 undef, arr0.getD 31 undef, arr0.getD 32 undef, arr0.getD 33 undef, arr0.getD 34 undef, arr0.getD 35 undef, arr0.getD 36 undef, arr0.getD 37 undef, arr0.getD 38 undef, arr0.getD 39 undef, arr0.getD 40 undef, arr0.getD 41 undef, arr0.getD 42 undef, arr0.getD 43 undef, arr0.getD 44 undef, arr0.getD 45 undef, arr0.getD 46 undef, arr0.getD 47 undef, arr0.getD 48 undef, arr0.getD 49 undef, arr0.getD 50 undef, arr0.getD 51 undef, arr0.getD 52 undef, arr0.getD 53 undef, arr0.getD 54 undef, arr0.getD 55 undef, arr0.getD 56 undef, arr0.getD 57 undef, arr0.getD 58 undef, arr0.getD 59 undef, arr0.getD 60 undef, arr0.getD 61 undef, arr0.getD 62 undef, arr0.getD 63 undef, arr0.getD 64 undef, arr0.getD 65 undef, arr0.getD 66 undef, arr0.getD 67 undef, arr0.getD 68 undef, arr0.getD 69 undef, arr0.getD 70 undef, arr0.getD 71 undef, arr0.getD 72 undef, arr0.getD 73 undef, arr0.getD 74 undef, arr0.getD 75 undef, arr0.getD 76 undef, arr0.getD 77 undef, arr0.getD 78 undef, arr0.getD 79 undef, arr0.getD 80 undef, arr0.getD 81 undef, arr0.getD 82 undef, arr0.getD 83 undef, arr0.getD 84 undef, arr0.getD 85 undef, arr0.getD 86 undef, arr0.getD 87 undef, arr0.getD 88 undef, arr0.getD 89 undef, arr0.getD 90 undef, arr0.getD 91 undef, arr0.getD 92 undef, arr0.getD 93 undef, arr0.getD 94 undef, arr0.getD 95 undef, arr0.getD 96 undef, arr0.getD 97 undef, arr0.getD 98 undef, arr0.getD 99 undef, arr.getD 100 undef, arr.getD 101 undef, arr.getD 102 undef, arr.getD 103 undef, arr.getD 104 undef, arr.getD 105 undef, arr0.getD 106 undef, arr0.getD 107 undef, arr0.getD 108 undef, arr0.getD 109 undef, arr0.getD 110 undef, arr0.getD 111 undef, arr0.getD 112 undef, arr0.getD 113 undef, arr0.getD 114 undef, arr0.getD 115 undef, arr0.getD 116 undef, arr0.getD 117 undef, arr0.getD 118 undef, arr0.getD 119 undef, arr0.getD 120 undef, arr0.getD 121 undef, arr0.getD 122 undef, arr0.getD 123 undef, arr0.getD 124 undef, arr0.getD 125 undef, arr0.getD 126 undef, arr0.getD 127 undef, arr0.getD 128 undef, arr0.getD 129 undef, arr0.getD 130 undef, arr0.getD 131 undef, arr0.getD 132 undef, arr0.getD 133 undef, arr0.getD 134 undef, arr0.getD 135 undef, arr0.getD 136 undef, arr0.getD 137 undef, arr0.getD 138 undef, arr0.getD 139 undef, arr0.getD 140 undef, arr0.getD 141 undef, arr0.getD 142 undef, arr0.getD 143 undef, arr0.getD 144 undef, arr0.getD 145 undef, arr0.getD 146 undef, arr0.getD 147 undef, arr0.getD 148 undef, arr0.getD 149 undef, arr0.getD 150 undef, arr0.getD 151 undef, arr0.getD 152 undef, arr0.getD 153 undef, arr0.getD 154 undef, arr0.getD 155 undef, arr0.getD 156 undef, arr0.getD 157 undef, arr0.getD 158 undef, arr0.getD 159 undef, arr0.getD 160 undef, arr0.getD 161 undef, arr0.getD 162 undef, arr0.getD 163 undef, arr0.getD 164 undef, arr0.getD 165 undef, arr0.getD 166 undef, arr0.getD 167 undef, arr0.getD 168 undef, arr0.getD 169 undef, arr0.getD 170 undef, arr0.getD 171 undef, arr0.getD 172 undef, arr0.getD 173 undef, arr0.getD 174 undef, arr0.getD 175 undef, arr0.getD 176 undef, arr0.getD 177 undef, arr0.getD 178 undef, arr0.getD 179 undef, arr0.getD 180 undef, arr0.getD 181 undef, arr0.getD 182 undef, arr0.getD 183 undef]) : BaseTPFoggy o l obk arr0 ⟨arr, []⟩ := ⟨fun i => arr.getD i undef, by rw [← h]⟩
theorem BaseTPFoggy.put100 {o l obk : Nat} {arr0 : Array Value} (a : Act) (v : Value) (h : BaseTPFoggy o l obk arr0 a) : BaseTPFoggy o l obk arr0 (a.put (some 100) v) := by
  obtain ⟨u, rfl⟩ := h
  exact ⟨fun i => if i = 100 then v else u i, by kernel_rfl⟩
theorem BaseTPFoggy.put101 {o l obk : Nat} {arr0 : Array Value} (a : Act) (v : Value) (h : BaseTPFoggy o l obk arr0 a) : BaseTPFoggy o l obk arr0 (a.put (some 101) v) := by
  obtain ⟨u, rfl⟩ := h
  exact ⟨fun i => if i = 101 then v else u i, by kernel_rfl⟩
theorem BaseTPFoggy.put102 {o l obk : Nat} {arr0 : Array Value} (a : Act) (v : Value) (h : BaseTPFoggy o l obk arr0 a) : BaseTPFoggy o l obk arr0 (a.put (some 102) v) := by
  obtain ⟨u, rfl⟩ := h
  exact ⟨fun i => if i = 102 then v else u i, by kernel_rfl⟩
theorem BaseTPFoggy.put103 {o l obk : Nat} {arr0 : Array Value} (a : Act) (v : Value) (h : BaseTPFoggy o l obk arr0 a) : BaseTPFoggy o l obk arr0 (a.put (some 103) v) := by
  obtain ⟨u, rfl⟩ := h
  exact ⟨fun i => if i = 103 then v else u i, by kernel_rfl⟩
theorem BaseTPFoggy.put104 {o l obk : Nat} {arr0 : Array Value} (a : Act) (v : Value) (h : BaseTPFoggy o l obk arr0 a) : BaseTPFoggy o l obk arr0 (a.put (some 104) v) := by
  obtain ⟨u, rfl⟩ := h
  exact ⟨fun i => if i = 104 then v else u i, by kernel_rfl⟩
theorem BaseTPFoggy.put105 {o l obk : Nat} {arr0 : Array Value} (a : Act) (v : Value) (h : BaseTPFoggy o l obk arr0 a) : BaseTPFoggy o l obk arr0 (a.put (some 105) v) := by
  obtain ⟨u, rfl⟩ := h
  exact ⟨fun i => if i = 105 then v else u i, by kernel_rfl⟩
theorem BaseTPFoggy.put15 {o l obk : Nat} {arr0 : Array Value} (a : Act) (v : Value) (h : BaseTPFoggy o l obk arr0 a) : BaseTPFoggy o l obk arr0 (a.put (some 15) v) := by
  obtain ⟨u, rfl⟩ := h
  exact ⟨fun i => if i = 15 then v else u i, by kernel_rfl⟩
/-- what each operation of the region TPFine leaves -/
def vsTPFine (o l : Nat) (ox ok oa ob ec : Int) : List (Option (Tmp × Value)) :=
  [some (94, .pointer (some ⟨o, 0, none⟩)), some (95, .int .i64 (l : Int)), some (96, .int .i64 (l : Int)), some (97, .agg (tv3 (pgS l) (pgS (l + 1)) (pgS (l + 2)))), some (98, .agg (fv ox ok oa ob)), none, some (15, .int .i64 ec)]
/-- the frame while the region TPFine runs -/
def BaseTPFine (o l obk : Nat) (arr0 : Array Value) (a : Act) : Prop := ∃ u : Nat → Value, a = ⟨#[arr0.getD 0 undef, arr0.getD 1 undef, arr0.getD 2 undef, arr0.getD 3 undef, arr0.getD 4 undef, arr0.getD 5 undef, arr0.getD 6 undef, .pointer (some ⟨o, 0, none⟩), arr0.getD 8 undef, arr0.getD 9 undef, arr0.getD 10 undef, .int .i64 (l : Int), arr0.getD 12 undef, arr0.getD 13 undef, .pointer (some ⟨obk, 0, none⟩), u 15, arr0.getD 16 undef, arr0.getD 17 undef, arr0.getD 18 undef, arr0.getD 19 undef, arr0.getD 20 undef, arr0.getD 21 undef, arr0.getD 22 undef, arr0.getD 23 undef, arr0.getD 24 undef, arr0.getD 25 undef, arr0.getD 26 undef, arr0.getD 27 undef, arr0.getD 28 undef, arr0.getD 29 undef, arr0.getD 30 undef, arr0.getD 31 undef, arr0.getD 32 undef, arr0.getD 33 undef, arr0.getD 34 undef, arr0.getD 35 undef, arr0.getD 36 undef, arr0.getD 37 undef, arr0.getD 38 undef, arr0.getD 39 undef, arr0.getD 40 undef, arr0.getD 41 undef, arr0.getD 42 undef, arr0.getD 43 undef, arr0.getD 44 undef, arr0.getD 45 undef, arr0.getD 46 undef, arr0.getD 47 undef, arr0.getD 48 undef, arr0.getD 49 undef, arr0.getD 50 undef, arr0.getD 51 undef, arr0.getD 52 undef, arr0.getD 53 undef, arr0.getD 54 undef, arr0.getD 55 undef, arr0.getD 56 undef, arr0.getD 57 undef, arr0.getD 58 undef, arr0.getD 59 undef, arr0.getD 60 undef, arr0.getD 61 undef, arr0.getD 62 undef, arr0.getD 63 undef, arr0.getD 64 undef, arr0.getD 65 undef, arr0.getD 66 undef, arr0.getD 67 undef, arr0.getD 68 undef, arr0.getD 69 undef, arr0.getD 70 undef, arr0.getD 71 undef, arr0.getD 72 undef, arr0.getD 73 undef, arr0.getD 74 undef, arr0.getD 75 undef, arr0.getD 76 undef, arr0.getD 77 undef, arr0.getD 78 undef, arr0.getD 79 undef, arr0.getD 80 undef, arr0.getD 81 undef, arr0.getD 82 undef, arr0.getD 83 undef, arr0.getD 84 undef, arr0.getD 85 undef, arr0.getD 86 undef, arr0.getD 87 undef, arr0.getD 88 undef, arr0.getD 89 undef, arr0.getD 90 undef, arr0.getD 91 undef, arr0.getD 92 undef, arr0.getD 93 undef, u 94, u 95, u 96, u 97, u 98, u 99, arr0.getD 100 undef, arr0.getD 101 undef, arr0.getD 102 undef, arr0.getD 103 undef, arr0.getD 104 undef, arr0.getD 105 undef, arr0.getD 106 undef, arr0.getD 107 undef, arr0.getD 108 undef, arr0.getD 109 undef, arr0.getD 110 undef, arr0.getD 111 undef, arr0.getD 112 undef, arr0.getD 113 undef, arr0.getD 114 undef, arr0.getD 115 undef, arr0.getD 116 undef, arr0.getD 117 undef, arr0.getD 118 undef, arr0.getD 119 undef, arr0.getD 120 undef, arr0.getD 121 undef, arr0.getD 122 undef, arr0.getD 123 undef, arr0.getD 124 undef, arr0.getD 125 undef, arr0.getD 126 undef, arr0.getD 127 undef, arr0.getD 128 undef, arr0.getD 129 undef, arr0.getD 130 undef, arr0.getD 131 undef, arr0.getD 132 undef, arr0.getD 133 undef, arr0.getD 134 undef, arr0.getD 135 undef, arr0.getD 136 undef, arr0.getD 137 undef, arr0.getD 138 undef, arr0.getD 139 undef, arr0.getD 140 undef, arr0.getD 141 undef, arr0.getD 142 undef, arr0.getD 143 undef, arr0.getD 144 undef, arr0.getD 145 undef, arr0.getD 146 undef, arr0.getD 147 undef, arr0.getD 148 undef, arr0.getD 149 undef, arr0.getD 150 undef, arr0.getD 151 undef, arr0.getD 152 undef, arr0.getD 153 undef, arr0.getD 154 undef, arr0.getD 155 undef, arr0.getD 156 undef, arr0.getD 157 undef, arr0.getD 158 undef, arr0.getD 159 undef, arr0.getD 160 undef, arr0.getD 161 undef, arr0.getD 162 undef, arr0.getD 163 undef, arr0.getD 164 undef, arr0.getD 165 undef, arr0.getD 166 undef, arr0.getD 167 undef, arr0.getD 168 undef, arr0.getD 169 undef, arr0.getD 170 undef, arr0.getD 171 undef, arr0.getD 172 undef, arr0.getD 173 undef, arr0.getD 174 undef, arr0.getD 175 undef, arr0.getD 176 undef, arr0.getD 177 undef, arr0.getD 178 undef, arr0.getD 179 undef, arr0.getD 180 undef, arr0.getD 181 undef, arr0.getD 182 undef, arr0.getD 183 undef], []⟩
theorem BaseTPFine.of {o l obk : Nat} {arr0 : Array Value} (arr : Array Value) (h : arr = #[arr0.getD 0 undef, arr0.getD 1 undef, arr0.getD 2 undef, arr0.getD 3 undef, arr0.getD 4 undef, arr0.getD 5 undef, arr0.getD 6 undef, .pointer (some ⟨o, 0, none⟩), arr0.getD 8 undef, arr0.getD 9 undef, arr0.getD 10 undef, .int .i64 (l : Int), arr0.getD 12 undef, arr0.getD 13 undef, .pointer (some ⟨obk, 0, none⟩), arr.getD 15 undef, arr0.getD 16 undef, arr0.getD 17 undef, arr0.getD 18 undef, arr0.getD 19 undef, arr0.getD 20 undef, arr0.getD 21 undef, arr0.getD 22 undef, arr0.getD 23 undef, arr0.getD 24 undef, arr0.getD 25 undef, arr0.getD 26 undef, arr0.getD 27 undef, arr0.getD 28 undef, arr0.getD 29 undef, arr0.getD 30 undef, arr0.getD 31 undef, arr0.getD 32 undef, arr0.getD 33 undef, arr0.getD 34 undef, arr0.getD 35 undef, arr0.getD 36 undef, arr0.getD 37 undef, arr0.getD 38 undef, arr0.getD 39 undef, arr0.getD 40 undef, arr0.getD 41 undef, arr0.getD 42 undef, arr0.getD 43 undef, arr0.getD 44 undef, arr0.getD 45 undef, arr0.getD 46 undef, arr0.getD 47 undef, arr0.getD 48 undef, arr0.getD 49 undef, arr0.getD 50 undef, arr0.getD 51 undef, arr0.getD 52 undef, arr0.getD 53 undef, arr0.getD 54 undef, arr0.getD 55 undef, arr0.getD 56 undef, arr0.getD 57 undef, arr0.getD 58 undef, arr0.getD 59 undef, arr0.getD 60 undef, arr0.getD 61 undef, arr0.getD 62 undef, arr0.getD 63 undef, arr0.getD 64 undef, arr0.getD 65 undef, arr0.getD 66 undef, arr0.getD 67 undef, arr0.getD 68 undef, arr0.getD 69 undef, arr0.getD 70 undef, arr0.getD 71 undef, arr0.getD 72 undef, arr0.getD 73 undef, arr0.getD 74 undef, arr0.getD 75 undef, arr0.getD 76 undef, arr0.getD 77 undef, arr0.getD 78 undef, arr0.getD 79 undef, arr0.getD 80 undef, arr0.getD 81 undef, arr0.getD 82 undef, arr0.getD 83 undef, arr0.getD 84 undef, arr0.getD 85 undef, arr0.getD 86 undef, arr0.getD 87 undef, arr0.getD 88 undef, arr0.getD 89 undef, arr0.getD 90 undef, arr0.getD 91 undef, arr0.getD 92 undef, arr0.getD 93 undef, arr.getD 94 undef, arr.getD 95 undef, arr.getD 96 undef, arr.getD 97 undef, arr.getD 98 undef, arr.getD 99 undef, arr0.getD 100 undef, arr0.getD 101 undef, arr0.getD 102 undef, arr0.getD 103 undef, arr0.getD 104 undef, arr0.getD 105 undef, arr0.getD 106 undef, arr0.getD 107 undef, arr0.getD 108 undef, arr0.getD 109 undef, arr0.getD 110 undef, arr0.getD 111 undef, arr0.getD 112 undef, arr0.getD 113 undef, arr0.getD 114 undef, arr0.getD 115 undef, arr0.getD 116 undef, arr0.getD 117 undef, arr0.getD 118 undef, arr0.getD 119 undef, arr0.getD 120 undef, arr0.getD 121 undef, arr0.getD 122 undef, arr0.getD 123 undef, arr0.getD 124 undef, arr0.getD 125 undef, arr0.getD 126 undef, arr0.getD 127 undef, arr0.getD 128 undef, arr0.getD 129 undef, arr0.getD 130 undef, arr0.getD 131 undef, arr0.getD 132 undef, arr0.getD 133 undef, arr0.getD 134 undef, arr0.getD 135 undef, arr0.getD 136 undef, arr0.getD 137 undef, arr0.getD 138 undef, arr0.getD 139 undef, arr0.getD 140 undef, arr0.getD 141 undef, arr0.getD 142 undef, arr0.getD 143 undef, arr0.getD 144 undef, arr0.getD 145 undef, arr0.getD 146 undef, arr0.getD 147 undef, arr0.getD 148 undef, arr0.getD 149 undef, arr0.getD 150 undef, arr0.getD 151 undef, arr0.getD 152 undef, arr0.getD 153 undef, arr0.getD 154 undef, arr0.getD 155 undef, arr0.getD 156 undef, arr0.getD 157 undef, arr0.getD 158 undef, arr0.getD 159 undef, arr0.getD 160 undef, arr0.getD 161 undef, arr0.getD 162 undef, arr0.getD 163 undef, arr0.getD 164 undef, arr0.getD 165 undef, arr0.getD 166 undef, arr0.getD 167 undef, arr0.getD 168 undef, arr0.getD 169 undef, arr0.getD 170 undef, arr0.getD 171 undef, arr0.getD 172 undef, arr0.getD 173 undef, arr0.getD 174 undef, arr0.getD 175 undef, arr0.getD 176 undef, arr0.getD 177 undef, arr0.getD 178 undef, arr0.getD 179 undef, arr0.getD 180 undef, arr0.getD 181 undef, arr0.getD 182 undef, arr0.getD 183 undef]) : BaseTPFine o l obk arr0 ⟨arr, []⟩ := ⟨fun i => arr.getD i undef, by rw [← h]⟩
theorem BaseTPFine.put94 {o l obk : Nat} {arr0 : Array Value} (a : Act) (v : Value) (h : BaseTPFine o l obk arr0 a) : BaseTPFine o l obk arr0 (a.put (some 94) v) := by
  obtain ⟨u, rfl⟩ := h
  exact ⟨fun i => if i = 94 then v else u i, by kernel_rfl⟩
theorem BaseTPFine.put95 {o l obk : Nat} {arr0 : Array Value} (a : Act) (v : Value) (h : BaseTPFine o l obk arr0 a) : BaseTPFine o l obk arr0 (a.put (some 95) v) := by
  obtain ⟨u, rfl⟩ := h
  exact ⟨fun i => if i = 95 then v else u i, by kernel_rfl⟩
theorem BaseTPFine.put96 {o l obk : Nat} {arr0 : Array Value} (a : Act) (v : Value) (h : BaseTPFine o l obk arr0 a) : BaseTPFine o l obk arr0 (a.put (some 96) v) := by
  obtain ⟨u, rfl⟩ := h
  exact ⟨fun i => if i = 96 then v else u i, by kernel_rfl⟩
theorem BaseTPFine.put97 {o l obk : Nat} {arr0 : Array Value} (a : Act) (v : Value) (h : BaseTPFine o l obk arr0 a) : BaseTPFine o l obk arr0 (a.put (some 97) v) := by
  obtain ⟨u, rfl⟩ := h
  exact ⟨fun i => if i = 97 then v else u i, by kernel_rfl⟩
theorem BaseTPFine.put98 {o l obk : Nat} {arr0 : Array Value} (a : Act) (v : Value) (h : BaseTPFine o l obk arr0 a) : BaseTPFine o l obk arr0 (a.put (some 98) v) := by
  obtain ⟨u, rfl⟩ := h
  exact ⟨fun i => if i = 98 then v else u i, by kernel_rfl⟩
theorem BaseTPFine.put99 {o l obk : Nat} {arr0 : Array Value} (a : Act) (v : Value) (h : BaseTPFine o l obk arr0 a) : BaseTPFine o l obk arr0 (a.put (some 99) v) := by
  obtain ⟨u, rfl⟩ := h
  exact ⟨fun i => if i = 99 then v else u i, by kernel_rfl⟩
theorem BaseTPFine.put15 {o l obk : Nat} {arr0 : Array Value} (a : Act) (v : Value) (h : BaseTPFine o l obk arr0 a) : BaseTPFine o l obk arr0 (a.put (some 15) v) := by
  obtain ⟨u, rfl⟩ := h
  exact ⟨fun i => if i = 15 then v else u i, by kernel_rfl⟩

set_option maxHeartbeats 16000000 in
theorem walk_CellTwoPass (ln kn : Int) (x kk a b : Int) (_ : (Lit.int .i64 ln).wf = true) (_ : (Lit.int .i64 kn).wf = true) (w : World) (hT : Tabs w) :
    Calls Tryd.prog 4 #[.int .i64 ln, .int .i64 kn, .agg (fv x kk a b)] w fun e w' => e = .returned (.bool true) ∧ Below w.heap.size w w' := by
  obtain ⟨w1, hw1⟩ : ∃ w1, w.alloc (.cells (fv x kk a b) 23) = w1 := ⟨_, rfl⟩
  have hb1 : Below w.heap.size w w1 := by rw [← hw1]; exact (Below.refl _ _).alloc (Nat.le_refl _) _
  have hk1 : Blk w1 w.heap.size (fv x kk a b) 23 := by rw [← hw1]; exact Blk.new w _ _
  have HTB : Hid (∀ w', Below w1.heap.size w1 w' → Tabs w') := fun w' hb => (hT.after hb1).after hb
  have HBX : Hid (∀ w', Below w1.heap.size w1 w' → Blk w' w.heap.size (fv x kk a b) 23) := fun w' hb => hk1.after hb
  have HB1 := Lib.hid hb1
  have HW1 := Lib.hid hw1
  clear hT hb1 hk1 hw1
  go_enter Tryd.func4, Tryd.ntmps4
  go_wp2_with fail
  change Calls _ _ _ (w.alloc (.cells (fv x kk a b) 23)) _
  rw [HW1.out]
  refine (ce_works _ (HTB.out _ (Below.refl _ _))).mono ?_
  rintro e w2 ⟨rfl, hb2⟩
  have HB2 : Hid (Below w1.heap.size w1 w2) := hb2
  clear hb2
  have hcc : ln < 1 ∨ (¬ ln < 1 ∧ 12 < ln) ∨ (¬ ln < 1 ∧ ¬ 12 < ln ∧ kn < 1) ∨ (¬ ln < 1 ∧ ¬ 12 < ln ∧ ¬ kn < 1 ∧ 2 * ln < kn) ∨ (¬ ln < 1 ∧ ¬ 12 < ln ∧ ¬ kn < 1 ∧ ¬ 2 * ln < kn) := by omega
  rcases hcc with hc1 | ⟨hc1, hc2⟩ | ⟨hc1, hc2, hc3⟩ | ⟨hc1, hc2, hc3, hc4⟩ | ⟨hc1, hc2, hc3, hc4⟩
  · go_wp2_with fail
    go_ret
    exact ⟨rfl, HB1.out.trans (HB2.out.mono HB1.out.size)⟩
  · go_wp2_with fail
    go_ret
    exact ⟨rfl, HB1.out.trans (HB2.out.mono HB1.out.size)⟩
  · go_wp2_with fail
    go_ret
    exact ⟨rfl, HB1.out.trans (HB2.out.mono HB1.out.size)⟩
  · go_wp2_with fail
    go_ret
    exact ⟨rfl, HB1.out.trans (HB2.out.mono HB1.out.size)⟩
  · obtain ⟨L, rfl⟩ : ∃ L : Nat, ln = L := ⟨ln.toNat, by omega⟩
    obtain ⟨k, rfl⟩ : ∃ k : Nat, kn = k := ⟨kn.toNat, by omega⟩
    have HN : Hid (1 ≤ L ∧ L ≤ 12 ∧ 1 ≤ k ∧ k ≤ 2 * L) := ⟨by omega, by omega, by omega, by omega⟩
    have hL1 : 1 ≤ L := by omega
    have hL2 : L ≤ 12 := by omega
    have hk1 : 1 ≤ k := by omega
    have hk2 : k ≤ 2 * L := by omega
    have hmk := run_make_row' (P := Tryd.prog) 41 3 (.int .i64 0) 8 Tryd.underlying41 infoI8 rfl .i64 .i64 L (by omega) (by omega)
    go_wp2_with fail
    refine (ce_new (L : Nat) 8 _).mono ?_
    rintro e w3 ⟨hy, _, hb3⟩
    obtain ⟨o, F, rfl, hc, hF⟩ := hy ⟨⟨by omega, by omega⟩, by decide, ⟨by decide, by decide, by decide⟩⟩
    have hnn : newSt (L : Int).toNat (8 : Int).toNat = newSt L 8 := by simp
    rw [hnn] at hc
    have e2 : EX w1 o F (newSt L 8) w3 := ⟨hc, fun kk hkk => Nat.le_trans HB2.out.size (hF kk hkk), HB2.out.trans (hb3.mono HB2.out.size)⟩
    obtain ⟨w4, hw4⟩ : ∃ w4, w3.alloc (.cells (madeCells #[.int .i64 0] L) 3) = w4 := ⟨_, rfl⟩
    obtain ⟨g, hg⟩ : ∃ g, w3.heap.size = g := ⟨_, rfl⟩
    have hb4 : Below w3.heap.size w3 w4 := by rw [← hw4]; exact (Below.refl _ _).alloc (Nat.le_refl _) _
    have hp4 : Blk w4 g (pasV L 0) 3 := by rw [← hw4, ← hg, pas_zero]; exact Blk.new w3 _ _
    have E2 : Hid (PQ w1 o F (newSt L 8) g L 0 w4) := ⟨e2.after hb4, fun hf => absurd (hc.lt g hf) (by omega), by rw [← hg]; exact e2.low.size, hp4⟩
    have HW4 := Lib.hid hw4
    have HG := Lib.hid hg
    clear hy hc hF hb3 hnn HB2 e2 hb4 hp4 hw4 hg
    go_wp2_with fail
    rw [HW4.out, HG.out]
    clear hmk
    have hv0 : hurtV L k kk 0 = -1 := if_neg (fun h => by omega)
    go_loopw [10, 55] (fun hv iv wr => ∃ i : Nat, i ≤ k ∧ iv = .int .i64 i ∧ hv = .int .i64 (hurtV L k kk i) ∧ ∃ F s, QS L k kk a b i s ∧ PQ w1 o F s g L i wr) (fun _ iv _ => k - (intOf iv).toNat)
    case atStart => exact ⟨0, by omega, rfl, by rw [hv0], F, newSt L 8, QS.zero L k kk a b hL1 (by omega) hk1, E2.out⟩
    case round =>
      clear hv0 E2 F HW4 HG
      obtain ⟨i, hi, rfl, rfl, F, s, hqs, hpq⟩ := hrel
      have HQ := Lib.hid hqs
      have ER := Lib.hid hpq
      clear hqs hpq
      by_cases hlt : i < k
      · have hi2 : i < 2 * L := by omega
        obtain ⟨l, f, hst⟩ : ∃ l f, stepC L i = (l, f) := ⟨_, _, rfl⟩
        have hlL : l < L := by have := (place_step hi2).2; rw [hst] at this; exact this
        have hhv : hurtV L k kk i = -1 := if_neg (fun h => by omega)
        rw [hhv]
        obtain ⟨ox, ok, oa, ob, how1, how2⟩ : ∃ ox ok oa ob : Int, (i + 1 = k → ox = x ∧ ok = kk ∧ oa = a ∧ ob = b) ∧ (¬ i + 1 = k → ox = 0 ∧ ok = 0 ∧ oa = 0 ∧ ob = 0) := by
          by_cases h : i + 1 = k
          · exact ⟨x, kk, a, b, fun _ => ⟨rfl, rfl, rfl, rfl⟩, fun h2 => absurd h h2⟩
          · exact ⟨0, 0, 0, 0, fun h2 => absurd h2 h, fun _ => ⟨rfl, rfl, rfl, rfl⟩⟩
        have hnx := HQ.out.next hlt hk2 hst ok oa ob ⟨fun h => (how1 h).2, fun h => (how2 h).2.1⟩
        obtain ⟨t, ht⟩ : ∃ t, twoSt s (l : Nat) (pgS l) (pgS (l + 1)) (pgS (l + 2)) f ok oa ob = t := ⟨_, rfl⟩
        obtain ⟨ec, hec⟩ : ∃ ec, twoC s (l : Nat) (pgS l) (pgS (l + 1)) (pgS (l + 2)) f ok = ec := ⟨_, rfl⟩
        rw [ht, hec] at hnx
        have hvn : hurtV L k kk (i + 1) = if ok = 1 ∨ ok = 2 then (l : Int) else -1 := by
          unfold hurtV
          by_cases h : i + 1 = k
          · have h2 := (how1 h).2.1
            subst h2
            have h3 : (stepC L (k - 1)).1 = l := by rw [show k - 1 = i by omega, hst]
            rw [h3]
            have h4 : (hurtsB ok = true) ↔ (ok = 1 ∨ ok = 2) := by unfold hurtsB; simp
            by_cases h5 : ok = 1 ∨ ok = 2
            · rw [if_pos ⟨h, h4.2 h5⟩, if_pos h5]
            · rw [if_neg (fun h6 => h5 (h4.1 h6.2)), if_neg h5]
          · have h2 := (how2 h).2.1
            subst h2
            rw [if_neg (fun h3 => h h3.1), if_neg (by decide)]
        have HVN := Lib.hid hvn
        have HOW : Hid ((i + 1 = k → ox = x ∧ ok = kk ∧ oa = a ∧ ob = b) ∧ (¬ i + 1 = k → ox = 0 ∧ ok = 0 ∧ oa = 0 ∧ ob = 0)) := ⟨how1, how2⟩
        have HST := Lib.hid ht
        have HEC := Lib.hid hec
        have HQN : Hid (QS L k kk a b (i + 1) t) := hnx.1
        have HEE : Hid (ec = endC ok) := hnx.2
        have HSP := Lib.hid hst
        have HWS : Hid (WfSt s) := HQ.out.wf
        have HL98 : Hid (l ≤ 98) := by show l ≤ 98; omega
        clear hhv how1 how2 hnx ht hec hvn hst HQ
        go_upto_block 2 with fail
        go_cut [11, 12] (fun s11 s12 wc => s11 = .int .i64 (l : Int) ∧ s12 = .bool f ∧ wc = wr)
        case first =>
          have htv := tv_int i
          have htw := tv_int (i + 1)
          rcases step_kinds hL1 hi2 HSP.out with ⟨h0, h1, h2⟩ | ⟨h0, h1, h2, h3, h4⟩ | ⟨h0, h1, h2, h3, h4⟩ | ⟨h0, h1, h2, h3⟩
          · subst h0 h1 h2
            clear htv htw HEE HQN HEC HST HVN HOW
            go_wp2_with fail
            go_meet
            case rel => exact ⟨rfl, rfl, rfl⟩
          · subst h4
            have hm : (i : Int).tmod 2 = 1 := by rw [htv.2, h1]; rfl
            have hd : ((i : Int) + 1).tdiv 2 = (l : Int) := by rw [h3]; exact htw.1
            have hz : ((i : Int) == 0) = false := by simp [h0]
            have hlt2 : (i : Int) < 2 * (L : Int) - 1 := by omega
            clear htv htw HEE HQN HEC HST HVN HOW
            go_wp2_with fail
            go_meet
            case rel => exact ⟨by first | rfl | (congr 1; done) | (congr 1; omega), rfl, rfl⟩
          · subst h4
            have hm : (i : Int).tmod 2 = 1 := by rw [htv.2, h1]; rfl
            have hz : ((i : Int) == 0) = false := by simp [h0]
            have hlt2 : ¬ (i : Int) < 2 * (L : Int) - 1 := by omega
            have hbq2 : ((i : Int) == 2 * (L : Int) - 1) = true := by simp; omega
            clear htv htw HEE HQN HEC HST HVN HOW
            go_wp2_with fail
            go_meet
            case rel => exact ⟨by first | rfl | (congr 1; done) | (congr 1; omega), rfl, rfl⟩
          · subst h3
            have hm : (i : Int).tmod 2 = 0 := by rw [htv.2, h1]; rfl
            have hd : (i : Int).tdiv 2 = ((l : Int) + 1) := by rw [htv.1]; omega
            have hz : ((i : Int) == 0) = false := by simp [h0]
            have hne2 : ¬ (i : Int) = 2 * (L : Int) - 1 := by omega
            have hne3 : ((i : Int) == 2 * (L : Int) - 1) = false := by simpa using hne2
            clear htv htw HEE HQN HEC HST HVN HOW
            go_wp2_with fail
            go_meet
            case rel => exact ⟨by first | rfl | (congr 1; done) | (congr 1; omega), rfl, rfl⟩
        case rest =>
          obtain ⟨rfl, rfl, hwc⟩ := hcut
          subst hwc
          go_upto_if 91 with fail
          go_cut [14] (fun s14 wc => ∃ obk, s14 = .pointer (some ⟨obk, 0, none⟩) ∧ PT w1 o F s g L i obk ox ok oa ob wc)
          case first =>
            by_cases hl : i + 1 = k
            · obtain ⟨rfl, rfl, rfl, rfl⟩ := HOW.out.1 hl
              have hbq : ((i : Int) == (k : Int) - 1) = true := by simp; omega
              obtain ⟨w5, hw5⟩ : ∃ w5, (wc.alloc (.cells (fv 0 0 0 0) 23)).setRow wc.heap.size (fv ox ok oa ob) = w5 := ⟨_, rfl⟩
              have hz5 : Blk (wc.alloc (.cells (fv 0 0 0 0) 23)) wc.heap.size (fv 0 0 0 0) 23 := Blk.new _ _ _
              have hb5 : Below wc.heap.size wc w5 := by rw [← hw5]; exact below_put (Nat.le_refl _) _ ((Below.refl _ _).alloc (Nat.le_refl _) _)
              have hp5 : PT w1 o F s g L i wc.heap.size ox ok oa ob w5 := ⟨ER.out.after hb5, fun hf => absurd (ER.out.ex.cell.lt _ hf) (by omega), by rw [← hw5]; exact hz5.put _⟩
              have hx5 := (HBX.out _ ER.out.ex.low).after (w' := wc.alloc (.cells (fv 0 0 0 0) 23)) ((Below.refl _ _).alloc (Nat.le_refl _) _)
              have HZ5 := Lib.hid hz5
              have HP5 := Lib.hid hp5
              have HX5 := Lib.hid hx5
              have HW5 := Lib.hid hw5
              clear hz5 hb5 hp5 hx5 hw5 HVN HQN HEE HST HEC HSP
              go_wp2_with (first | refine wpList_load_row rfl 23 (.tmp 5) rfl w.heap.size rfl 23 (fv ox ok oa ob) (0, 0) _ HX5.out Tryd.underlying23 rfl size_fault ?_ | (refine wpList_store_row rfl 23 (.tmp 14) (.tmp 92) rfl wc.heap.size (fv ox ok oa ob) rfl rfl 23 _ HZ5.out size_fault rfl (fv_one ox ok oa ob) ?_; change wpList _ _ _ _ _ ((wc.alloc (.cells (fv 0 0 0 0) 23)).setRow wc.heap.size (fv ox ok oa ob)); rw [HW5.out]))
              go_meet
              case rel => exact ⟨_, rfl, HP5.out⟩
            · obtain ⟨rfl, rfl, rfl, rfl⟩ := HOW.out.2 hl
              have hbq : ((i : Int) == (k : Int) - 1) = false := by simp; omega
              go_wp2_with fail
              go_meet
              case rel => exact ⟨_, rfl, ER.out.after ((Below.refl _ _).alloc (Nat.le_refl _) _), fun hf => absurd (ER.out.ex.cell.lt _ hf) (by omega), Blk.new _ _ _⟩
          case rest =>
            obtain ⟨obk, rfl, hpt⟩ := hcut
            have E0 := Lib.hid hpt
            clear hpt ER HOW
            go_upto_if 93 with fail
            go_cut [15] (fun s15 wc => s15 = .int .i64 ec ∧ ∃ F2, PT w1 o F2 t g L i obk ox ok oa ob wc)
            case first =>
              cases f
              · go_wp2_with fail
                rename_i K0 hK0
                generalize hA : (⟨_, _⟩ : Act) = A
                have HA := Lib.hid hA
                have HBT : Hid (BaseTPFoggy o l obk A.tmps A) := by
                  show BaseTPFoggy _ _ _ _ _
                  rw [← hA]
                  exact BaseTPFoggy.of _ (by kernel_rfl)
                clear hA
                refine wp_region_list5 5 (fun i => i == 6) (SV2 (vsTPFoggy o l ox ok oa ob ec) (fun j => if j = 5 then [105] else [])) (BaseTPFoggy o l obk A.tmps) (PT w1 o F s g L i obk ox ok oa ob) (fun w2 w3 => (∃ F2, PT w1 o F2 t g L i obk ox ok oa ob w2) → ∃ F2, PT w1 o F2 t g L i obk ox ok oa ob w3) (RV (vsTPFoggy o l ox ok oa ob ec) (SpTP 105 w1 o t g L i obk ox ok oa ob ec)) rfl (by decide) (by kernel_rfl) (by kernel_rfl) (RV.ext2 (SpTP.ext 105 w1 o t g L i obk ox ok oa ob ec)) ?_ (E0.out.after (Below.refl _ _).drew) HBT.out ?_ ?_
                · exact ⟨BaseTPFoggy.put100, BaseTPFoggy.put101, BaseTPFoggy.put102, BaseTPFoggy.put103, BaseTPFoggy.put104, BaseTPFoggy.put105, BaseTPFoggy.put15, trivial⟩
                · refine ⟨?_, ?_, ?_, ?_, ?_, ?_, ?_, trivial⟩
                  all_goals
                    intro a w' hC hB hR
                    obtain ⟨u, rfl⟩ := hB
                    have HC := Lib.hid hC
                    clear hC
                    clear hK0
                  · clear hR
                    refine if_yes (by kernel_rfl) ?_
                    unfold Oper.wp
                    go_simp
                    exact ⟨.pointer (some ⟨o, 0, none⟩), rfl, (by first | exact fun _ _ => HC.out rfl | exact HC.out rfl | trivial | exact fun _ h => absurd h (by decide)), (by first | exact fun h => h | exact fun F3 h => ⟨F3, h⟩), rfl⟩
                  · clear hR
                    refine if_yes (by kernel_rfl) ?_
                    unfold Oper.wp
                    go_simp
                    exact ⟨.int .i64 (l : Int), rfl, (by first | exact fun _ _ => HC.out rfl | exact HC.out rfl | trivial | exact fun _ h => absurd h (by decide)), (by first | exact fun h => h | exact fun F3 h => ⟨F3, h⟩), rfl⟩
                  · clear hR
                    refine if_yes (by kernel_rfl) ?_
                    unfold Oper.wp
                    go_simp
                    exact ⟨.int .i64 (l : Int), rfl, (by first | exact fun _ _ => HC.out rfl | exact HC.out rfl | trivial | exact fun _ h => absurd h (by decide)), (by first | exact fun h => h | exact fun F3 h => ⟨F3, h⟩), rfl⟩
                  · have h102 : u 102 = .int .i64 (l : Int) := hR ⟨2, .data⟩ (by simp) rfl
                    clear hR
                    simp only [h102]
                    clear h102
                    refine if_yes (by kernel_rfl) ?_
                    unfold Oper.wp
                    go_simp
                    have hc := HC.out rfl
                    refine (ce_three l _ HL98.out (HTB.out _ hc.ex.low)).mono ?_
                    rintro e w2 ⟨rfl, hb2⟩
                    exact ⟨.agg (tv3 (pgS l) (pgS (l + 1)) (pgS (l + 2))), rfl, (by first | exact fun _ _ => hc.after hb2 | exact hc.after hb2), (by first | exact fun h => h.elim fun F2 h2 => ⟨F2, h2.after hb2⟩ | exact fun F2 h2 => ⟨F2, h2.after hb2⟩), rfl⟩
                  · clear hR
                    refine if_yes (by kernel_rfl) ?_
                    exact wp_load_row 23 (.tmp 14) rfl obk rfl 23 (fv ox ok oa ob) (0, 0) _ (HC.out rfl).own Tryd.underlying23 rfl size_fault ⟨.agg (fv ox ok oa ob), rfl, (by first | exact fun _ _ => HC.out rfl | exact HC.out rfl | trivial | exact fun _ h => absurd h (by decide)), (by first | exact fun h => h | exact fun F3 h => ⟨F3, h⟩), rfl⟩
                  · have h100 : u 100 = .pointer (some ⟨o, 0, none⟩) := hR ⟨0, .data⟩ (by simp) rfl
                    have h101 : u 101 = .int .i64 (l : Int) := hR ⟨1, .data⟩ (by simp) rfl
                    have h103 : u 103 = .agg (tv3 (pgS l) (pgS (l + 1)) (pgS (l + 2))) := hR ⟨3, .data⟩ (by simp) rfl
                    have h104 : u 104 = .agg (fv ox ok oa ob) := hR ⟨4, .data⟩ (by simp) rfl
                    clear hR
                    simp only [h100, h101, h103, h104]
                    clear h100 h101 h103 h104
                    refine if_yes (by kernel_rfl) ?_
                    unfold Oper.wp
                    go_simp
                    have hc := HC.out rfl
                    refine (ce_foggy o F s (l : Int) (pgS l) (pgS (l + 1)) (pgS (l + 2)) ox ok oa ob _ HWS.out hc.ex.cell (pgS_le _) (pgS_le _) (pgS_le _)).mono ?_
                    rintro e w2 ⟨rfl, ⟨F2, hc2, hg2⟩, ho2⟩
                    rw [HST.out] at hc2
                    rw [HEC.out]
                    have hx := hc.act hc2 hg2 ho2
                    exact ⟨.int .i64 ec, rfl, (by first | trivial | exact fun h => absurd rfl h), (by first | exact fun _ => ⟨F2, hx⟩ | exact fun _ _ => ⟨F2, hx⟩), ⟨fun _ => ⟨rfl, F2, hx⟩⟩⟩
                  · obtain ⟨hv, _⟩ := (hR ⟨5, .data⟩ (by simp) rfl).one rfl
                    have hv : u 105 = .int .i64 ec := hv
                    simp only [hv]
                    clear hR
                    refine if_yes (by kernel_rfl) ?_
                    unfold Oper.wp
                    go_simp
                    exact ⟨.int .i64 ec, rfl, (by first | exact fun _ _ => HC.out rfl | exact HC.out rfl | trivial | exact fun _ h => absurd h (by decide)), (by first | exact fun h => h | exact fun F3 h => ⟨F3, h⟩), rfl⟩
                · intro a' w' hB hR
                  have h99 := (hR 5 (by decide)).one rfl
                  have h15 := hR 6 (by decide)
                  obtain ⟨u, rfl⟩ := hB
                  have h15 : u 15 = .int .i64 ec := h15
                  simp only [h15]
                  rw [← HA.out]
                  clear HA HBT
                  go_wp2_with fail
                  go_meet
                  case rel => exact ⟨rfl, h99.2⟩
              · go_wp2_with fail
                rename_i K0 hK0
                generalize hA : (⟨_, _⟩ : Act) = A
                have HA := Lib.hid hA
                have HBT : Hid (BaseTPFine o l obk A.tmps A) := by
                  show BaseTPFine _ _ _ _ _
                  rw [← hA]
                  exact BaseTPFine.of _ (by kernel_rfl)
                clear hA
                refine wp_region_list5 5 (fun i => i == 6) (SV2 (vsTPFine o l ox ok oa ob ec) (fun j => if j = 5 then [99] else [])) (BaseTPFine o l obk A.tmps) (PT w1 o F s g L i obk ox ok oa ob) (fun w2 w3 => (∃ F2, PT w1 o F2 t g L i obk ox ok oa ob w2) → ∃ F2, PT w1 o F2 t g L i obk ox ok oa ob w3) (RV (vsTPFine o l ox ok oa ob ec) (SpTP 99 w1 o t g L i obk ox ok oa ob ec)) rfl (by decide) (by kernel_rfl) (by kernel_rfl) (RV.ext2 (SpTP.ext 99 w1 o t g L i obk ox ok oa ob ec)) ?_ (E0.out.after (Below.refl _ _).drew) HBT.out ?_ ?_
                · exact ⟨BaseTPFine.put94, BaseTPFine.put95, BaseTPFine.put96, BaseTPFine.put97, BaseTPFine.put98, BaseTPFine.put99, BaseTPFine.put15, trivial⟩
                · refine ⟨?_, ?_, ?_, ?_, ?_, ?_, ?_, trivial⟩
                  all_goals
                    intro a w' hC hB hR
                    obtain ⟨u, rfl⟩ := hB
                    have HC := Lib.hid hC
                    clear hC
                    clear hK0
                  · clear hR
                    refine if_yes (by kernel_rfl) ?_
                    unfold Oper.wp
                    go_simp
                    exact ⟨.pointer (some ⟨o, 0, none⟩), rfl, (by first | exact fun _ _ => HC.out rfl | exact HC.out rfl | trivial | exact fun _ h => absurd h (by decide)), (by first | exact fun h => h | exact fun F3 h => ⟨F3, h⟩), rfl⟩
                  · clear hR
                    refine if_yes (by kernel_rfl) ?_
                    unfold Oper.wp
                    go_simp
                    exact ⟨.int .i64 (l : Int), rfl, (by first | exact fun _ _ => HC.out rfl | exact HC.out rfl | trivial | exact fun _ h => absurd h (by decide)), (by first | exact fun h => h | exact fun F3 h => ⟨F3, h⟩), rfl⟩
                  · clear hR
                    refine if_yes (by kernel_rfl) ?_
                    unfold Oper.wp
                    go_simp
                    exact ⟨.int .i64 (l : Int), rfl, (by first | exact fun _ _ => HC.out rfl | exact HC.out rfl | trivial | exact fun _ h => absurd h (by decide)), (by first | exact fun h => h | exact fun F3 h => ⟨F3, h⟩), rfl⟩
                  · have h96 : u 96 = .int .i64 (l : Int) := hR ⟨2, .data⟩ (by simp) rfl
                    clear hR
                    simp only [h96]
                    clear h96
                    refine if_yes (by kernel_rfl) ?_
                    unfold Oper.wp
                    go_simp
                    have hc := HC.out rfl
                    refine (ce_three l _ HL98.out (HTB.out _ hc.ex.low)).mono ?_
                    rintro e w2 ⟨rfl, hb2⟩
                    exact ⟨.agg (tv3 (pgS l) (pgS (l + 1)) (pgS (l + 2))), rfl, (by first | exact fun _ _ => hc.after hb2 | exact hc.after hb2), (by first | exact fun h => h.elim fun F2 h2 => ⟨F2, h2.after hb2⟩ | exact fun F2 h2 => ⟨F2, h2.after hb2⟩), rfl⟩
                  · clear hR
                    refine if_yes (by kernel_rfl) ?_
                    exact wp_load_row 23 (.tmp 14) rfl obk rfl 23 (fv ox ok oa ob) (0, 0) _ (HC.out rfl).own Tryd.underlying23 rfl size_fault ⟨.agg (fv ox ok oa ob), rfl, (by first | exact fun _ _ => HC.out rfl | exact HC.out rfl | trivial | exact fun _ h => absurd h (by decide)), (by first | exact fun h => h | exact fun F3 h => ⟨F3, h⟩), rfl⟩
                  · have h94 : u 94 = .pointer (some ⟨o, 0, none⟩) := hR ⟨0, .data⟩ (by simp) rfl
                    have h95 : u 95 = .int .i64 (l : Int) := hR ⟨1, .data⟩ (by simp) rfl
                    have h97 : u 97 = .agg (tv3 (pgS l) (pgS (l + 1)) (pgS (l + 2))) := hR ⟨3, .data⟩ (by simp) rfl
                    have h98 : u 98 = .agg (fv ox ok oa ob) := hR ⟨4, .data⟩ (by simp) rfl
                    clear hR
                    simp only [h94, h95, h97, h98]
                    clear h94 h95 h97 h98
                    refine if_yes (by kernel_rfl) ?_
                    unfold Oper.wp
                    go_simp
                    have hc := HC.out rfl
                    refine (ce_fine o F s (l : Int) (pgS l) (pgS (l + 1)) (pgS (l + 2)) ox ok oa ob _ HWS.out hc.ex.cell (pgS_le _) (pgS_le _) (pgS_le _)).mono ?_
                    rintro e w2 ⟨rfl, ⟨F2, hc2, hg2⟩, ho2⟩
                    rw [HST.out] at hc2
                    rw [HEC.out]
                    have hx := hc.act hc2 hg2 ho2
                    exact ⟨.int .i64 ec, rfl, (by first | trivial | exact fun h => absurd rfl h), (by first | exact fun _ => ⟨F2, hx⟩ | exact fun _ _ => ⟨F2, hx⟩), ⟨fun _ => ⟨rfl, F2, hx⟩⟩⟩
                  · obtain ⟨hv, _⟩ := (hR ⟨5, .data⟩ (by simp) rfl).one rfl
                    have hv : u 99 = .int .i64 ec := hv
                    simp only [hv]
                    clear hR
                    refine if_yes (by kernel_rfl) ?_
                    unfold Oper.wp
                    go_simp
                    exact ⟨.int .i64 ec, rfl, (by first | exact fun _ _ => HC.out rfl | exact HC.out rfl | trivial | exact fun _ h => absurd h (by decide)), (by first | exact fun h => h | exact fun F3 h => ⟨F3, h⟩), rfl⟩
                · intro a' w' hB hR
                  have h99 := (hR 5 (by decide)).one rfl
                  have h15 := hR 6 (by decide)
                  obtain ⟨u, rfl⟩ := hB
                  have h15 : u 15 = .int .i64 ec := h15
                  simp only [h15]
                  rw [← HA.out]
                  clear HA HBT
                  go_wp2_with fail
                  go_meet
                  case rel => exact ⟨rfl, h99.2⟩
            case rest =>
              obtain ⟨rfl, F2, hp2⟩ := hcut
              have hq1 := hp2.own.cell 1
              have hcp := (hp2.q.pas.cell l).trans (pas_cell hlL)
              have hfp := hp2.q.pas.free l
              have hst3 := hp2.q.step hi2 HSP.out
              have hv2 : afterC L i l ≤ 2 := after_le _ _ _
              have HS3 := Lib.hid hst3
              obtain ⟨v, hv⟩ : ∃ v, afterC L i l = v := ⟨_, rfl⟩
              rw [hv] at hcp HS3 hv2
              clear hp2 hst3 E0 hv HST HEC
              rcases (by omega : ok = 1 ∨ ok = 2 ∨ (¬ ok = 1 ∧ ¬ ok = 2)) with hk1' | hk2' | ⟨hk1', hk2'⟩
              · subst hk1'
                obtain rfl : ec = 82 := HEE.out
                replace hq1 : wc.cell? ⟨obk, 1, none⟩ = some (.int .i64 1) := hq1
                clear HEE
                go_wp2_with fail
                go_roundw
                case rel => exact ⟨i + 1, by omega, by go_num, by rw [HVN.out]; rfl, F2, t, HQN.out, HS3.out⟩
                case measure => simp [intOf]; omega
              · subst hk2'
                obtain rfl : ec = 81 := HEE.out
                replace hq1 : wc.cell? ⟨obk, 1, none⟩ = some (.int .i64 2) := hq1
                clear HEE
                go_wp2_with fail
                go_roundw
                case rel => exact ⟨i + 1, by omega, by go_num, by rw [HVN.out]; rfl, F2, t, HQN.out, HS3.out⟩
                case measure => simp [intOf]; omega
              · obtain rfl : ec = 0 := by
                  have h1 := HEE.out
                  unfold endC at h1
                  rw [if_neg hk1', if_neg hk2'] at h1
                  exact h1
                replace hq1 : wc.cell? ⟨obk, 1, none⟩ = some (.int .i64 ok) := hq1
                have hb1 : (ok == 1) = false := by simpa using hk1'
                have hb2 : (ok == 2) = false := by simpa using hk2'
                clear HEE
                go_wp2_with fail
                go_roundw
                case rel => exact ⟨i + 1, by omega, by go_num, by rw [HVN.out, if_neg (by omega)], F2, t, HQN.out, HS3.out⟩
                case measure => simp [intOf]; omega
      · have hik : k = i := by omega
        subst hik
        obtain ⟨hv, hhv⟩ : ∃ hv : Int, hurtV L k kk k = hv := ⟨_, rfl⟩
        rw [hhv]
        have HHV := Lib.hid hhv
        have HWF : Hid (WfSt s) := HQ.out.wf
        clear hhv
        go_wp2_with fail
        go_loopw [132] (fun iv wr => ∃ j : Nat, j ≤ L ∧ iv = .int .i64 j ∧ PQ w1 o F s g L k wr) (fun iv _ => L - (intOf iv).toNat)
        case atStart => exact ⟨0, by omega, rfl, ER.out⟩
        case round =>
          clear ER
          obtain ⟨j, hj, rfl, hpq⟩ := hrel
          have ER := Lib.hid hpq
          clear hpq
          by_cases hjl : j < L
          · go_wp2_with fail
            go_loopw [135] (fun iv wr => ∃ t : Nat, t ≤ 3 ∧ iv = .int .i64 t ∧ PQ w1 o F s g L k wr) (fun iv _ => 3 - (intOf iv).toNat)
            case atStart => exact ⟨0, by omega, rfl, ER.out⟩
            case round =>
              clear ER
              obtain ⟨t, ht3, rfl, hpq⟩ := hrel
              have ER := Lib.hid hpq
              clear hpq
              by_cases htl : t < 3
              · have htd := HQ.out.told hk1 hk2 hL2 j t hjl htl
                have hsm := HQ.out.small (j : Nat) (t : Nat)
                have hvv : (j = (stepC L (k - 1)).1 ∧ hurtsB kk = true) ↔ (j : Int) = hv := by
                  rw [← HHV.out]
                  unfold hurtV
                  by_cases h : hurtsB kk = true
                  · rw [if_pos ⟨rfl, h⟩]
                    exact ⟨fun h2 => by rw [h2.1], fun h2 => ⟨by omega, h⟩⟩
                  · rw [if_neg (fun h2 => h h2.2)]
                    exact ⟨fun h2 => absurd h2.2 h, fun h2 => by omega⟩
                have ha2 : afterC L k j ≤ 2 := after_le _ _ _
                have hcp0 : ∀ w', Blk w' g (pasV L k) 3 → w'.cell? ⟨g, j, none⟩ = some (.int .i64 ((afterC L k j : Nat) : Int)) := fun w' h => (h.cell j).trans (pas_cell hjl)
                rw [hvv] at htd
                have HTD := Lib.hid htd
                have HSM := Lib.hid hsm
                have HCP := Lib.hid hcp0
                clear htd hsm hvv hcp0
                rcases (by omega : afterC L k j = 1 ∨ (afterC L k j = 0 ∧ (j : Int) = hv) ∨ (afterC L k j = 2 ∧ (j : Int) = hv) ∨ (afterC L k j = 0 ∧ ¬ (j : Int) = hv) ∨ (afterC L k j = 2 ∧ ¬ (j : Int) = hv)) with ha | ⟨ha, hjv⟩ | ⟨ha, hjv⟩ | ⟨ha, hjv⟩ | ⟨ha, hjv⟩
                · obtain ⟨tx, htx⟩ : ∃ tx, readT s (j : Nat) (t : Nat) = tx := ⟨_, rfl⟩
                  have HRC : Hid (readC s (j : Nat) (t : Nat) = 0) := HTD.out.1
                  have hpv : pageV (readT s (j : Nat) (t : Nat)) = pv 4 0 0 0 0 ByteArray.empty := HTD.out.2.1 (Or.inl ha)
                  rw [htx] at hpv
                  have HPV : Hid (pageV tx = #[.int .i64 4, .int .i64 0, .int .i64 0, .int .i64 0, .int .i64 0, .string ByteArray.empty]) := hpv
                  have HSZ : Hid (tx.size ≤ 400) := by
                    show tx.size ≤ 400
                    rw [← htx]
                    exact HSM.out
                  clear hpv
                  have HTX := Lib.hid htx
                  clear htx HTD HSM
                  go_wp2_with fail
                  refine (ce_read o F s (j : Nat) (t : Nat) _ HWF.out ER.out.ex.cell).mono ?_
                  rintro e w7 ⟨rfl, hb7⟩
                  have E7 := Lib.hid (ER.out.after hb7)
                  rw [HRC.out, HTX.out]
                  clear hb7 ER HRC HTX
                  go_wp2_with fail
                  refine (fr_dec tx _ HSZ.out (HTB.out _ E7.out.ex.low)).mono ?_
                  rintro e w8 ⟨rfl, hb8⟩
                  rw [HPV.out]
                  have E8 := Lib.hid (E7.out.after hb8)
                  clear hb8 E7 HPV HSZ
                  obtain ⟨w9, hw9⟩ : ∃ w9, (w8.alloc (.cells #[.int .i64 0, .int .i64 0, .int .i64 0, .int .i64 0, .int .i64 0, .string ⟨#[]⟩] 36)).setRow w8.heap.size #[.int .i64 4, .int .i64 0, .int .i64 0, .int .i64 0, .int .i64 0, .string ByteArray.empty] = w9 := ⟨_, rfl⟩
                  have hzb : Blk (w8.alloc (.cells #[.int .i64 0, .int .i64 0, .int .i64 0, .int .i64 0, .int .i64 0, .string ⟨#[]⟩] 36)) w8.heap.size #[.int .i64 0, .int .i64 0, .int .i64 0, .int .i64 0, .int .i64 0, .string ⟨#[]⟩] 36 := Blk.new w8 _ _
                  have hb9 : Below w8.heap.size w8 w9 := by rw [← hw9]; exact below_put (Nat.le_refl _) _ ((Below.refl _ _).alloc (Nat.le_refl _) _)
                  have hn9 : Blk w9 w8.heap.size #[.int .i64 4, .int .i64 0, .int .i64 0, .int .i64 0, .int .i64 0, .string ByteArray.empty] 36 := by rw [← hw9]; exact hzb.put _
                  have E9 := Lib.hid (E8.out.after hb9)
                  have hcp : w9.cell? ⟨g, j, none⟩ = some (.int .i64 1) := by
                    have h := HCP.out w9 E9.out.pas
                    rw [ha] at h
                    exact h
                  have c21 : w9.cell? ⟨w8.heap.size, 0, none⟩ = some (.int .i64 4) := hn9.cell 0
                  have HN9 := Lib.hid hn9
                  have HZB := Lib.hid hzb
                  have HW9 := Lib.hid hw9
                  clear hw9 hzb hb9 hn9 E8 HCP ha ha2
                  go_wp2_with (refine wpList_store_row rfl 36 (.tmp 21) (.tmp 146) rfl w8.heap.size #[.int .i64 4, .int .i64 0, .int .i64 0, .int .i64 0, .int .i64 0, .string ByteArray.empty] rfl rfl 36 _ HZB.out size_page rfl (pv_one 4 0 0 0 0 ByteArray.empty) ?_; change wpList _ _ _ _ _ ((w8.alloc (.cells #[.int .i64 0, .int .i64 0, .int .i64 0, .int .i64 0, .int .i64 0, .string ⟨#[]⟩] 36)).setRow w8.heap.size #[.int .i64 4, .int .i64 0, .int .i64 0, .int .i64 0, .int .i64 0, .string ByteArray.empty]); rw [HW9.out])
                  go_roundw
                  case rel => exact ⟨t + 1, by omega, by go_num, E9.out⟩
                  case measure => simp [intOf]; omega
                · exfalso
                  have h1 : pv 4 0 0 0 0 ByteArray.empty = pv 1 0 0 0 0 ByteArray.empty := (HTD.out.2.1 (Or.inr hjv)).symm.trans (HTD.out.2.2.1 ha)
                  have h2 : (pv 4 0 0 0 0 ByteArray.empty)[0]? = (pv 1 0 0 0 0 ByteArray.empty)[0]? := by rw [h1]
                  have h3 : some (Value.int .i64 4) = some (Value.int .i64 1) := h2
                  exact absurd h3 (by simp)
                · obtain ⟨tx, htx⟩ : ∃ tx, readT s (j : Nat) (t : Nat) = tx := ⟨_, rfl⟩
                  have HRC : Hid (readC s (j : Nat) (t : Nat) = 0) := HTD.out.1
                  have hpv : pageV (readT s (j : Nat) (t : Nat)) = pv 4 0 0 0 0 ByteArray.empty := HTD.out.2.1 (Or.inr hjv)
                  rw [htx] at hpv
                  have HPV : Hid (pageV tx = #[.int .i64 4, .int .i64 0, .int .i64 0, .int .i64 0, .int .i64 0, .string ByteArray.empty]) := hpv
                  have HSZ : Hid (tx.size ≤ 400) := by
                    show tx.size ≤ 400
                    rw [← htx]
                    exact HSM.out
                  have HJB : Hid (((j : Int) == hv) = true) := by
                    show ((j : Int) == hv) = true
                    simpa using hjv
                  clear hpv hjv
                  have HTX := Lib.hid htx
                  clear htx HTD HSM
                  go_wp2_with fail
                  refine (ce_read o F s (j : Nat) (t : Nat) _ HWF.out ER.out.ex.cell).mono ?_
                  rintro e w7 ⟨rfl, hb7⟩
                  have E7 := Lib.hid (ER.out.after hb7)
                  rw [HRC.out, HTX.out]
                  clear hb7 ER HRC HTX
                  go_wp2_with fail
                  refine (fr_dec tx _ HSZ.out (HTB.out _ E7.out.ex.low)).mono ?_
                  rintro e w8 ⟨rfl, hb8⟩
                  rw [HPV.out]
                  have E8 := Lib.hid (E7.out.after hb8)
                  clear hb8 E7 HPV HSZ
                  obtain ⟨w9, hw9⟩ : ∃ w9, (w8.alloc (.cells #[.int .i64 0, .int .i64 0, .int .i64 0, .int .i64 0, .int .i64 0, .string ⟨#[]⟩] 36)).setRow w8.heap.size #[.int .i64 4, .int .i64 0, .int .i64 0, .int .i64 0, .int .i64 0, .string ByteArray.empty] = w9 := ⟨_, rfl⟩
                  have hzb : Blk (w8.alloc (.cells #[.int .i64 0, .int .i64 0, .int .i64 0, .int .i64 0, .int .i64 0, .string ⟨#[]⟩] 36)) w8.heap.size #[.int .i64 0, .int .i64 0, .int .i64 0, .int .i64 0, .int .i64 0, .string ⟨#[]⟩] 36 := Blk.new w8 _ _
                  have hb9 : Below w8.heap.size w8 w9 := by rw [← hw9]; exact below_put (Nat.le_refl _) _ ((Below.refl _ _).alloc (Nat.le_refl _) _)
                  have hn9 : Blk w9 w8.heap.size #[.int .i64 4, .int .i64 0, .int .i64 0, .int .i64 0, .int .i64 0, .string ByteArray.empty] 36 := by rw [← hw9]; exact hzb.put _
                  have E9 := Lib.hid (E8.out.after hb9)
                  have hcp : w9.cell? ⟨g, j, none⟩ = some (.int .i64 2) := by
                    have h := HCP.out w9 E9.out.pas
                    rw [ha] at h
                    exact h
                  have c21 : w9.cell? ⟨w8.heap.size, 0, none⟩ = some (.int .i64 4) := hn9.cell 0
                  have HN9 := Lib.hid hn9
                  have HZB := Lib.hid hzb
                  have HW9 := Lib.hid hw9
                  clear hw9 hzb hb9 hn9 E8 HCP ha ha2
                  have hjb := HJB.out
                  go_wp2_with (refine wpList_store_row rfl 36 (.tmp 21) (.tmp 146) rfl w8.heap.size #[.int .i64 4, .int .i64 0, .int .i64 0, .int .i64 0, .int .i64 0, .string ByteArray.empty] rfl rfl 36 _ HZB.out size_page rfl (pv_one 4 0 0 0 0 ByteArray.empty) ?_; change wpList _ _ _ _ _ ((w8.alloc (.cells #[.int .i64 0, .int .i64 0, .int .i64 0, .int .i64 0, .int .i64 0, .string ⟨#[]⟩] 36)).setRow w8.heap.size #[.int .i64 4, .int .i64 0, .int .i64 0, .int .i64 0, .int .i64 0, .string ByteArray.empty]); rw [HW9.out])
                  go_roundw
                  case rel => exact ⟨t + 1, by omega, by go_num, E9.out⟩
                  case measure => simp [intOf]; omega
                · obtain ⟨tx, htx⟩ : ∃ tx, readT s (j : Nat) (t : Nat) = tx := ⟨_, rfl⟩
                  have HRC : Hid (readC s (j : Nat) (t : Nat) = 0) := HTD.out.1
                  have hpv : pageV (readT s (j : Nat) (t : Nat)) = pv 1 0 0 0 0 ByteArray.empty := HTD.out.2.2.1 ha
                  rw [htx] at hpv
                  have HPV : Hid (pageV tx = #[.int .i64 1, .int .i64 0, .int .i64 0, .int .i64 0, .int .i64 0, .string ByteArray.empty]) := hpv
                  have HSZ : Hid (tx.size ≤ 400) := by
                    show tx.size ≤ 400
                    rw [← htx]
                    exact HSM.out
                  clear hpv
                  have HTX := Lib.hid htx
                  clear htx HTD HSM
                  go_wp2_with fail
                  refine (ce_read o F s (j : Nat) (t : Nat) _ HWF.out ER.out.ex.cell).mono ?_
                  rintro e w7 ⟨rfl, hb7⟩
                  have E7 := Lib.hid (ER.out.after hb7)
                  rw [HRC.out, HTX.out]
                  clear hb7 ER HRC HTX
                  go_wp2_with fail
                  refine (fr_dec tx _ HSZ.out (HTB.out _ E7.out.ex.low)).mono ?_
                  rintro e w8 ⟨rfl, hb8⟩
                  rw [HPV.out]
                  have E8 := Lib.hid (E7.out.after hb8)
                  clear hb8 E7 HPV HSZ
                  obtain ⟨w9, hw9⟩ : ∃ w9, (w8.alloc (.cells #[.int .i64 0, .int .i64 0, .int .i64 0, .int .i64 0, .int .i64 0, .string ⟨#[]⟩] 36)).setRow w8.heap.size #[.int .i64 1, .int .i64 0, .int .i64 0, .int .i64 0, .int .i64 0, .string ByteArray.empty] = w9 := ⟨_, rfl⟩
                  have hzb : Blk (w8.alloc (.cells #[.int .i64 0, .int .i64 0, .int .i64 0, .int .i64 0, .int .i64 0, .string ⟨#[]⟩] 36)) w8.heap.size #[.int .i64 0, .int .i64 0, .int .i64 0, .int .i64 0, .int .i64 0, .string ⟨#[]⟩] 36 := Blk.new w8 _ _
                  have hb9 : Below w8.heap.size w8 w9 := by rw [← hw9]; exact below_put (Nat.le_refl _) _ ((Below.refl _ _).alloc (Nat.le_refl _) _)
                  have hn9 : Blk w9 w8.heap.size #[.int .i64 1, .int .i64 0, .int .i64 0, .int .i64 0, .int .i64 0, .string ByteArray.empty] 36 := by rw [← hw9]; exact hzb.put _
                  have E9 := Lib.hid (E8.out.after hb9)
                  have hcp : w9.cell? ⟨g, j, none⟩ = some (.int .i64 0) := by
                    have h := HCP.out w9 E9.out.pas
                    rw [ha] at h
                    exact h
                  have c21 : w9.cell? ⟨w8.heap.size, 0, none⟩ = some (.int .i64 1) := hn9.cell 0
                  have HN9 := Lib.hid hn9
                  have HZB := Lib.hid hzb
                  have HW9 := Lib.hid hw9
                  clear hw9 hzb hb9 hn9 E8 HCP ha ha2
                  have hjb : ((j : Int) == hv) = false := by simpa using hjv
                  go_wp2_with (refine wpList_store_row rfl 36 (.tmp 21) (.tmp 146) rfl w8.heap.size #[.int .i64 1, .int .i64 0, .int .i64 0, .int .i64 0, .int .i64 0, .string ByteArray.empty] rfl rfl 36 _ HZB.out size_page rfl (pv_one 1 0 0 0 0 ByteArray.empty) ?_; change wpList _ _ _ _ _ ((w8.alloc (.cells #[.int .i64 0, .int .i64 0, .int .i64 0, .int .i64 0, .int .i64 0, .string ⟨#[]⟩] 36)).setRow w8.heap.size #[.int .i64 1, .int .i64 0, .int .i64 0, .int .i64 0, .int .i64 0, .string ByteArray.empty]); rw [HW9.out])
                  go_roundw
                  case rel => exact ⟨t + 1, by omega, by go_num, E9.out⟩
                  case measure => simp [intOf]; omega
                · obtain ⟨tx, htx⟩ : ∃ tx, readT s (j : Nat) (t : Nat) = tx := ⟨_, rfl⟩
                  have HRC : Hid (readC s (j : Nat) (t : Nat) = 0) := HTD.out.1
                  have hrg := HTD.out.2.2.2 ha hjv
                  have htx2 : tx = pgS (j + t) := htx.symm.trans hrg.1
                  subst htx2
                  have HPV : Hid (pageV (pgS (j + t)) = #[.int .i64 2, .int .i64 1, .int .i64 ((j + t : Nat) : Int), .int .i64 ((j + t : Nat) : Int), .int .i64 0, .string (byte8 (j + t))]) := hrg.2
                  have HSZ : Hid ((pgS (j + t)).size ≤ 400) := pgS_le (j + t)
                  have HPN : Hid (pgN (pgS j) (pgS (j + 1)) (pgS (j + 2)) t = pgS (j + t)) := by
                    show pgN (pgS j) (pgS (j + 1)) (pgS (j + 2)) t = pgS (j + t)
                    match t, htl with
                    | 0, _ => rfl
                    | 1, _ => rfl
                    | 2, _ => rfl
                  clear hrg
                  have HTX := Lib.hid htx
                  clear htx HTD HSM
                  go_wp2_with fail
                  refine (ce_read o F s (j : Nat) (t : Nat) _ HWF.out ER.out.ex.cell).mono ?_
                  rintro e w7 ⟨rfl, hb7⟩
                  have E7 := Lib.hid (ER.out.after hb7)
                  rw [HRC.out, HTX.out]
                  clear hb7 ER HRC HTX
                  go_wp2_with fail
                  refine (fr_dec (pgS (j + t)) _ HSZ.out (HTB.out _ E7.out.ex.low)).mono ?_
                  rintro e w8 ⟨rfl, hb8⟩
                  rw [HPV.out]
                  have E8 := Lib.hid (E7.out.after hb8)
                  clear hb8 E7 HPV HSZ
                  obtain ⟨w9, hw9⟩ : ∃ w9, (w8.alloc (.cells #[.int .i64 0, .int .i64 0, .int .i64 0, .int .i64 0, .int .i64 0, .string ⟨#[]⟩] 36)).setRow w8.heap.size #[.int .i64 2, .int .i64 1, .int .i64 ((j + t : Nat) : Int), .int .i64 ((j + t : Nat) : Int), .int .i64 0, .string (byte8 (j + t))] = w9 := ⟨_, rfl⟩
                  have hzb : Blk (w8.alloc (.cells #[.int .i64 0, .int .i64 0, .int .i64 0, .int .i64 0, .int .i64 0, .string ⟨#[]⟩] 36)) w8.heap.size #[.int .i64 0, .int .i64 0, .int .i64 0, .int .i64 0, .int .i64 0, .string ⟨#[]⟩] 36 := Blk.new w8 _ _
                  have hb9 : Below w8.heap.size w8 w9 := by rw [← hw9]; exact below_put (Nat.le_refl _) _ ((Below.refl _ _).alloc (Nat.le_refl _) _)
                  have hn9 : Blk w9 w8.heap.size #[.int .i64 2, .int .i64 1, .int .i64 ((j + t : Nat) : Int), .int .i64 ((j + t : Nat) : Int), .int .i64 0, .string (byte8 (j + t))] 36 := by rw [← hw9]; exact hzb.put _
                  have E9 := Lib.hid (E8.out.after hb9)
                  have hcp : w9.cell? ⟨g, j, none⟩ = some (.int .i64 2) := by
                    have h := HCP.out w9 E9.out.pas
                    rw [ha] at h
                    exact h
                  have c21 : w9.cell? ⟨w8.heap.size, 0, none⟩ = some (.int .i64 2) := hn9.cell 0
                  have HN9 := Lib.hid hn9
                  have HZB := Lib.hid hzb
                  have HW9 := Lib.hid hw9
                  clear hw9 hzb hb9 hn9 E8 HCP ha ha2
                  have hjb : ((j : Int) == hv) = false := by simpa using hjv
                  go_wp2_with (refine wpList_store_row rfl 36 (.tmp 21) (.tmp 146) rfl w8.heap.size #[.int .i64 2, .int .i64 1, .int .i64 ((j + t : Nat) : Int), .int .i64 ((j + t : Nat) : Int), .int .i64 0, .string (byte8 (j + t))] rfl rfl 36 _ HZB.out size_page rfl (pv_one 2 1 ((j + t : Nat) : Int) ((j + t : Nat) : Int) 0 (byte8 (j + t))) ?_; change wpList _ _ _ _ _ ((w8.alloc (.cells #[.int .i64 0, .int .i64 0, .int .i64 0, .int .i64 0, .int .i64 0, .string ⟨#[]⟩] 36)).setRow w8.heap.size #[.int .i64 2, .int .i64 1, .int .i64 ((j + t : Nat) : Int), .int .i64 ((j + t : Nat) : Int), .int .i64 0, .string (byte8 (j + t))]); rw [HW9.out])
                  refine (ce_three j _ (by omega) (HTB.out _ E9.out.ex.low)).mono ?_
                  rintro e w10 ⟨rfl, hb10⟩
                  have E10 := Lib.hid (E9.out.after hb10)
                  have hix : ∀ w, (Instr.index 43 (.agg (tv3 (pgS j) (pgS (j + 1)) (pgS (j + 2)))) (.int .i64 (t : Int))).run Tryd.prog w = .ok (.string (pgS (j + t))) w := fun w => by
                    rw [← HPN.out]
                    exact index_three (pgS j) (pgS (j + 1)) (pgS (j + 2)) t htl w
                  clear hb10 E9 HN9 HW9 HZB HPN hcp c21
                  go_wp2_with fail
                  go_roundw
                  case rel => exact ⟨t + 1, by omega, by go_num, E10.out⟩
                  case measure => simp [intOf]; omega
              · go_wp2_with fail
                go_roundw
                case rel => exact ⟨j + 1, by omega, by go_num, ER.out⟩
                case measure => simp [intOf]; omega
          · go_wp2_with fail
            go_ret
            exact ⟨rfl, HB1.out.trans (ER.out.ex.low.mono HB1.out.size)⟩

end Go.Proofs.YtjmoecfgpfdncaaDoor
