/- What several layers share: a text's bytes, a row that the call owns and grew, the byte type's entry. -/
import Derived.Test.YtklbmlnghindjaaDoorKit
import Derived.Deep.OwnRows
namespace Go.Proofs.YtklbmlnghindjaaDoor
open Go.RowKit

def bs (s : ByteArray) : List UInt8 := s.data.toList
theorem bs_length (s : ByteArray) : (bs s).length = s.size := by simp [bs]
theorem own_below {wr w1 : World} {B n : Nat} {v : Value} {xs : List Value} {E : TypeId} {o : Obj} (hown : wr.ownsRow B E 1 v n xs) (hB : B ≤ wr.heap.size) (hgrow : (wr.alloc o).grownBy w1 v.ownBlock) : Below B wr w1 := by
  refine Below.grown (row := v.ownBlock) ((Below.refl _ _).alloc hB _) hgrow (by simp; omega) ?_
  intro g hg
  exact hown.2.elim (fun h => by rw [h.1] at hg; simp [Value.ownBlock] at hg) (fun ⟨g', _, _, h, hge, _⟩ => by rw [h] at hg; simp [Value.ownBlock] at hg; omega)
theorem Tryd.infoU8 : (Tryd.prog.info? 5).map (fun i => (i.zero, i.size, i.bytes)) = some (some (.int .u8 0), 1, 1) := by kernel_rfl

end Go.Proofs.YtklbmlnghindjaaDoor
