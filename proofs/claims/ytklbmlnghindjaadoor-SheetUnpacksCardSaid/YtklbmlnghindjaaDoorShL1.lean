/- Layer 12: works. -/
import Derived.Test.YtklbmlnghindjaaDoorShC6
import Derived.Test.YtklbmlnghindjaaDoorShB
namespace Go.Proofs.YtklbmlnghindjaaDoor
set_option maxRecDepth 100000
open Go.RowKit

theorem pageX_size (n : Nat) (l : List Rc) (h : 1 + 9 * l.length ≤ n) : (pageX n l).size = n := by unfold pageX; rw [padT_size, accT_size]; omega

def r3 : List Rc := [⟨1, 1, 2⟩, ⟨1, 1, 2⟩, ⟨1, 1, 2⟩]
theorem r3_may : ∀ x ∈ r3, MayX x := by decide
theorem r3_pages : ∃ p q : ByteArray, strV (pagesX 24 2 r3) = [.string p, .string q] ∧ q.size = 24 := ⟨_, _, rfl, pageX_size 24 (partX 2 r3 1) (by decide)⟩
theorem r3_at (w : World) (cs : Array Value) (hcs : cs = (flatX r3).toArray) : XsAt (w.alloc (.cells cs 32)) (some ⟨w.heap.size, 0, none⟩) r3 := by
  intro _
  refine ⟨w.heap.size, 0, rfl, by simp, fun i hi j v hj => ?_⟩
  rw [Nat.zero_add, (Blk.new w cs 32).cell, hcs, List.getElem?_toArray, flatX_get r3 i j hi (by have := (List.getElem?_eq_some_iff.1 hj).1; exact this)]
  exact hj

set_option maxHeartbeats 2000000 in
theorem sh_works (w : World) : Calls Tryd.prog 6 #[] w fun e w' => e = .returned (.bool true) ∧ Below w.heap.size w w' := by
  go_enter Tryd.func6, Tryd.ntmps6
  go_wp2_with (first
    | (refine wpList_store_row rfl 32 (.tmp 1) (.tmp 4) rfl w.heap.size (ra 1 1 2) rfl rfl 32 (ra 0 0 0) (Blk.new w (ra 0 0 0) 32) size_rec rfl (ra_one _ _ _) ?_)
    | (refine wpList_load_row rfl 32 (.tmp 1) rfl w.heap.size rfl 32 #[.int .i64 1, .int .i64 1, .int .i64 2] (0, 0) _ ((Blk.new w (ra 0 0 0) 32).put (ra 1 1 2)) Tryd.underlying32 rfl size_rec ?_))
  have hb1 : Below w.heap.size w ((w.alloc (.cells (ra 0 0 0) 32)).setRow w.heap.size (ra 1 1 2)) := below_put (Nat.le_refl _) _ ((Below.refl _ _).alloc (Nat.le_refl _) _)
  have hz1 : ((w.alloc (.cells (ra 0 0 0) 32)).setRow w.heap.size (ra 1 1 2)).heap.size = w.heap.size + 1 := by rw [size_setRow, World.size_alloc]
  have hat := r3_at ((w.alloc (.cells (ra 0 0 0) 32)).setRow w.heap.size (ra 1 1 2)) (flatX r3).toArray rfl
  have hb2 := hb1.alloc hb1.size (.cells (flatX r3).toArray 32)
  rw [hz1] at hat
  refine (sh_pack (some ⟨w.heap.size + 1, 0, none⟩) 3 r3 (by decide) (by decide) 24 _ hat).mono ?_
  rintro e w3 ⟨_, h2, _, hb3⟩
  have h24 : holdN 24 = 2 := by decide
  obtain ⟨v, rfl, hown⟩ := h2 (by rw [h24]; decide) r3_may
  have hb4 : Below w.heap.size w w3 := hb2.trans (hb3.mono hb2.size)
  obtain ⟨p, q, hpq, hq⟩ := r3_pages
  rw [h24, show pagesN 2 r3 = 2 from rfl, show (24 : Int).toNat = 24 from rfl, hpq] at hown
  obtain ⟨g, cap, hv⟩ := ownsRow_succ hown
  have hc := cell_of_rowX hown hv 1 _ rfl
  subst hv
  have HQ := Lib.hid hq
  have HB4 := Lib.hid hb4
  have hh := sh_hold 24 w3
  rw [h24] at hh
  have HH := Lib.hid hh
  clear hb1 hz1 hat hb2 hb3 h2 hown hb4 hpq hh h24
  go_wp2_with fail
  refine HH.out.mono ?_
  rintro e w4 ⟨rfl, rfl⟩
  go_wp2_with fail
  go_ret
  exact ⟨rfl, HB4.out⟩

end Go.Proofs.YtklbmlnghindjaaDoor
