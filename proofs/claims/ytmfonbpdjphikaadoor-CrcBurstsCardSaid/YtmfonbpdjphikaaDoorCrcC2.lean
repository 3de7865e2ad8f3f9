/- The contract of crc's Whole. -/
import Derived.Test.YtmfonbpdjphikaaDoorCrcC1
import Derived.Deep.RegionWith
import Derived.BigQuiet
import Derived.Deep.QuietTactic
namespace Go.Proofs.YtmfonbpdjphikaaDoor
open Go.RowKit

theorem TabAt.drew {w : World} (h : TabAt w) : TabAt w.drew := h

theorem below_drewN (w : World) (n : Nat) : Below w.heap.size w (w.drewN n) := ⟨rfl, rfl, rfl, Nat.le_refl _, fun _ _ => rfl⟩

/-- a text ends with its own sum's bytes just if it is the sealed text of what is ahead of them -/
theorem whole_tail (s : ByteArray) (h : 4 ≤ s.size) : wholeB s = ((s.extract (s.size - 4) s.size).toList == tail4 (sumN (bs (s.extract 0 (s.size - 4))))) := by
  rw [show tail4 (sumN (bs (s.extract 0 (s.size - 4)))) = (⟨(tail4 (sumN (bs (s.extract 0 (s.size - 4))))).toArray⟩ : ByteArray).toList from by rw [ByteArray.toList_eq]]
  rw [whole_long s h]
  have e : s.toList = (s.extract 0 (s.size - 4)).toList ++ (s.extract (s.size - 4) s.size).toList := by
    rw [ByteArray.toList_eq, ByteArray.toList_eq, ByteArray.toList_eq, ByteArray.data_extract, ByteArray.data_extract]
    have h2 : s.data.size = s.size := rfl
    simp only [Array.toList_extract, List.extract_eq_take_drop, List.drop_zero, Nat.sub_zero]
    rw [show s.size - (s.size - 4) = 4 by omega]
    have h4 : (List.drop (s.size - 4) s.data.toList).take 4 = List.drop (s.size - 4) s.data.toList := List.take_of_length_le (by rw [List.length_drop, Array.length_toList]; omega)
    rw [h4, List.take_append_drop]
  have e2 : (sealS (s.extract 0 (s.size - 4))).toList = (s.extract 0 (s.size - 4)).toList ++ (⟨(tail4 (sumN (bs (s.extract 0 (s.size - 4))))).toArray⟩ : ByteArray).toList := by
    rw [ByteArray.toList_eq, ByteArray.toList_eq, ByteArray.toList_eq]
    rfl
  rw [e, e2]
  generalize (s.extract 0 (s.size - 4)).toList = x
  generalize (s.extract (s.size - 4) s.size).toList = y
  generalize (⟨(tail4 (sumN (bs (s.extract 0 (s.size - 4))))).toArray⟩ : ByteArray).toList = z
  rw [Bool.eq_iff_iff, beq_iff_eq, beq_iff_eq, List.append_cancel_left_eq]
  exact eq_comm

set_option maxHeartbeats 2000000 in
set_option maxRecDepth 100000 in
theorem whole_any (s : ByteArray) (w : World) (hm : s.size ≤ 100000) (hT : TabAt w) :
    Calls Tryd.prog 14 #[.string s] w fun e w' => e = .returned (.bool (wholeB s)) ∧ Below w.heap.size w w' := by
  have HT := Lib.hid hT
  clear hT
  by_cases h : 4 ≤ s.size
  · have HW := Lib.hid (whole_tail s h)
    have hx : (s.extract 0 (s.size - 4)).size ≤ 100000 := by rw [ByteArray.size_extract]; omega
    go_enter Tryd.func14, Tryd.ntmps14
    have hd : (4 : Int) ≤ (s.size : Int) := by omega
    have htn : ((s.size : Int) - 4).toNat = s.size - 4 := by omega
    go_wp2_with fail
    go_region_with (go_at_call 21; refine (tail_any _ w.drew hx (TabAt.drew HT.out)).mono ?_; rintro e w1 ⟨rfl, hb1⟩)
    all_goals go_wp2_with fail
    all_goals go_ret
    all_goals exact ⟨ret_bool HW.out.symm, (Below.refl _ _).drew.trans hb1⟩
  · have HW := Lib.hid (whole_short s h)
    go_enter Tryd.func14, Tryd.ntmps14
    have hd : decide ((4 : Int) ≤ (s.size : Int)) = false := by simp; omega
    go_wp2
    go_quiet (fail)
    go_wp2
    go_ret
    exact ⟨ret_bool HW.out.symm, below_drewN _ _⟩

end Go.Proofs.YtmfonbpdjphikaaDoor
