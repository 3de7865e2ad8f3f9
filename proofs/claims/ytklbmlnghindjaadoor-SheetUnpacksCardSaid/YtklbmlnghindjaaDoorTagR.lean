/- The reference of layer 4, walked: May, Number, Encode, Of, Decode. -/
import Derived.Test.YtklbmlnghindjaaDoorTagM
import Derived.OwnWalk
import Derived.Deep.RegionHeld3
namespace Go.Proofs.YtklbmlnghindjaaDoor
open Go.RowKit

/-- a tag's value -/
def tv (k l q e : Int) : Value := .agg #[.int .i64 k, .int .i64 l, .int .i64 q, .int .i64 e]
theorem below_eq {w w' : World} (h : w = w') : Below w.heap.size w w' := by subst h; exact Below.refl _ _

def NumPost (v : Int) (n : Nat) (w : World) (r : Ending) (w' : World) : Prop := r = .returned (.string (leS v n)) ∧ Below w.heap.size w w'
theorem rtag_of (s : ByteArray) (w : World) (h1 : 1 ≤ s.size) (h2 : s.size ≤ 6) :
    Calls Tryd.prog 26 #[.string s] w fun r w' => r = .returned (.int .i64 (numS s)) ∧ w = w' := by
  have hn : 0 ≤ numS s ∧ numS s < 9223372036854775807 := by
    have h := numTo_bd s s.size (Nat.le_refl _)
    have h3 : p2 (8 * s.size) ≤ p2 48 := p2_le (by omega)
    have h4 : p2 48 = 281474976710656 := by decide
    unfold numS; omega
  obtain ⟨x, hx⟩ : ∃ x, numS s = x := ⟨_, rfl⟩
  have HX := Lib.hid hx
  rw [hx] at hn ⊢
  clear hx
  go_enter Tryd.func26, Tryd.ntmps26
  go_wp2_with fail
  refine (rget_yes s _ h1 (by omega)).mono ?_
  rintro r w1 ⟨rfl, rfl⟩
  rw [HX.out]
  go_wp2_with fail
  go_ret
  exact ⟨rfl, rfl⟩

theorem cat_bytes (a b : List UInt8) : (⟨a.toArray⟩ : ByteArray) ++ (⟨b.toArray⟩ : ByteArray) = ⟨(a ++ b).toArray⟩ := by
  rw [ByteArray.mk_append_mk]
theorem tag_cat (k l q e : Int) : (((strOfNums [27, k] ++ leS l 2) ++ leS q 6) ++ leS e 4) ++ strOfNums [0, 0] = tagS k l q e := by
  unfold leS strOfNums
  simp only [cat_bytes]
  rfl
theorem conv2 (c d : Int) (ty : TypeId) (W : World) :
    Sem.run Tryd.prog (convert 56 9 (.slice (some ⟨W.heap.size, 0, none⟩) 2 2)) (W.alloc (.cells #[.int .u8 c, .int .u8 d] ty))
      = .ok (.string (strOfNums [c, d])) (W.alloc (.cells #[.int .u8 c, .int .u8 d] ty)) := by
  refine run_convert_bytes_arg (P := Tryd.prog) _ 56 5 Tryd.underlying56 Tryd.underlying5 W.heap.size 0 2 2 [c, d] rfl ?_ 9 Tryd.underlying9
  intro i hi
  rw [Nat.zero_add, World.cell?_alloc_new]
  rcases i with _ | _ | i
  · rfl
  · rfl
  · omega

/-- the tag's copy lies in this block, and nothing below has turned -/
def KT (k l q e : Int) (w w' : World) : Prop := w'.cell? ⟨w.heap.size, 0, none⟩ = some (.int .i64 k) ∧ w'.cell? ⟨w.heap.size, 1, none⟩ = some (.int .i64 l) ∧ w'.cell? ⟨w.heap.size, 2, none⟩ = some (.int .i64 q) ∧ w'.cell? ⟨w.heap.size, 3, none⟩ = some (.int .i64 e) ∧ Below w.heap.size w w'
theorem KT.first (k l q e : Int) (w : World) (ty : TypeId) : KT k l q e w (w.alloc (.cells #[.int .i64 k, .int .i64 l, .int .i64 q, .int .i64 e] ty)) :=
  ⟨by rw [World.cell?_alloc_new]; rfl, by rw [World.cell?_alloc_new]; rfl, by rw [World.cell?_alloc_new]; rfl, by rw [World.cell?_alloc_new]; rfl, (Below.refl _ _).alloc (Nat.le_refl _) _⟩
theorem KT.drew {k l q e : Int} {w w' : World} (h : KT k l q e w w') : KT k l q e w w'.drew := ⟨h.1, h.2.1, h.2.2.1, h.2.2.2.1, h.2.2.2.2.drew⟩
theorem KT.call {k l q e : Int} {w w1 w2 : World} (h : KT k l q e w w1) (hb : Below w1.heap.size w1 w2) : KT k l q e w w2 :=
  ⟨(hb.cell (cell_lt h.1)).trans h.1, (hb.cell (cell_lt h.2.1)).trans h.2.1, (hb.cell (cell_lt h.2.2.1)).trans h.2.2.1, (hb.cell (cell_lt h.2.2.2.1)).trans h.2.2.2.1, h.2.2.2.2.trans (hb.mono h.2.2.2.2.size)⟩
theorem KT.alloc {k l q e : Int} {w w1 : World} (h : KT k l q e w w1) (o : Obj) : KT k l q e w (w1.alloc o) := h.call ((Below.refl _ _).alloc (Nat.le_refl _) _)

end Go.Proofs.YtklbmlnghindjaaDoor
