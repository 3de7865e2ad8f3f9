/- Package tag, walked: Encode. -/
import Derived.Test.YtgpegacbgjdogaaTagC0
namespace Go.Proofs.Ytgpegacbgjdogaa
open Go.RowKit

theorem size_a16 : (Try.prog.info? 33).map (·.size) = some 16 := by kernel_rfl
/-- the array's block, whole, and the tag's copy -/
def EncW (k l q e : Int) (g : Nat) (L : List UInt8) (w0 w : World) : Prop := Blk w g (tca L) 33 ∧ KT k l q e w0 w ∧ w0.heap.size < g
theorem EncW.drew {k l q e : Int} {g : Nat} {L : List UInt8} {w0 w : World} (h : EncW k l q e g L w0 w) : EncW k l q e g L w0 w.drew := ⟨h.1.drew, h.2.1.drew, h.2.2⟩
theorem KT.put {k l q e : Int} {w0 w : World} (h : KT k l q e w0 w) {g : Nat} (hg : w0.heap.size < g) (cs : Array Value) : KT k l q e w0 (w.setRow g cs) := by
  have hc : ∀ i, (w.setRow g cs).cell? ⟨w0.heap.size, i, none⟩ = w.cell? ⟨w0.heap.size, i, none⟩ := by
    intro i
    simp only [World.cell?, World.setRow, Array.getElem?_modify]
    rw [if_neg (by omega)]
  exact ⟨(hc 0).trans h.1, (hc 1).trans h.2.1, (hc 2).trans h.2.2.1, (hc 3).trans h.2.2.2.1, below_put (by omega) _ h.2.2.2.2⟩
theorem EncW.put {k l q e : Int} {g : Nat} {L L' : List UInt8} {w0 w w1 : World} (h : EncW k l q e g L w0 w) (hb : Below w.heap.size w w1) : EncW k l q e g L' w0 (w1.setRow g (tca L')) :=
  ⟨(h.1.after hb).put _, (h.2.1.call hb).put h.2.2 _, h.2.2⟩

/-- a block of bytes, as a text -/
theorem conv_tca {w : World} {g : Nat} {L : List UInt8} {t : TypeId} (h : Blk w g (tca L) t) (n cap : Nat) (hn : L.length = n) :
    Sem.run Try.prog (convert 35 9 (.slice (some ⟨g, 0, none⟩) n cap)) w = .ok (.string ⟨L.toArray⟩) w := by
  have hr := run_convert_bytes_arg (P := Try.prog) w 35 5 Try.underlying35 Try.underlying5 g 0 n cap (L.map fun c => (c.toNat : Int)) (by simp; omega) (by
    intro i hi
    have h3 : i < L.length := by omega
    rw [Nat.zero_add, h.cell i]
    simp [List.getD, h3, tca, Lib.byteCells]) 9 Try.underlying9
  rw [hr]
  congr 2
  apply strOfNums_eq
  rw [List.map_map]
  have e : ((fun n : Int => UInt8.ofNat n.toNat) ∘ fun b : UInt8 => (b.toNat : Int)) = id := by funext b; simp
  rw [e, List.map_id]

def encL0 : List UInt8 := [27, 0, 0, 0, 0, 0, 0, 0, 0, 0, 0, 0, 0, 0, 0, 0]
theorem enc_start (w : World) : Blk ((w.alloc (.cells #[.int .u8 0, .int .u8 0, .int .u8 0, .int .u8 0, .int .u8 0, .int .u8 0, .int .u8 0, .int .u8 0, .int .u8 0, .int .u8 0, .int .u8 0, .int .u8 0, .int .u8 0, .int .u8 0, .int .u8 0, .int .u8 0] 33)).setCell ⟨w.heap.size, 0, none⟩ (.int .u8 27)) w.heap.size (tca encL0) 33 :=
  (Blk.new w _ _).set 0 _ rfl
theorem enc_end (k l q e : Int) (h : MayT k l q e) : (⟨(layL (layL (layL (layL (layL encL0 1 (bs (leS k 1))) 2 (bs (leS l 2))) 4 (bs (leS q 6))) 10 (bs (leS e 4))) 14 (bs ⟨#[0, 0]⟩)).toArray⟩ : ByteArray) = tagS k l q e := by
  have e1 : bs (leS k 1) = [UInt8.ofNat k.toNat] := by
    obtain ⟨h1, h2, _⟩ := h
    have : k % 256 = k := by omega
    show [UInt8.ofNat (k % 256).toNat] = _
    rw [this]
  rw [e1]
  rfl

set_option maxRecDepth 100000 in
theorem tag_enc_yes (k l q e : Int) (w : World) (hm : MayT k l q e) : Calls Try.prog 7 #[.agg (ta k l q e)] w fun r w' => r = .returned (.tuple #[.string (tagS k l q e), .int .i64 0]) ∧ Below w.heap.size w w' := by
  have HB : Hid (mayB k l q e = true) := (mayB_iff k l q e).2 hm
  have HE := Lib.hid (enc_end k l q e hm)
  obtain ⟨h1, h2, h3, h4, h5, h6, h7, h8⟩ := hm
  have b1 : k < p2 (8 * 1) := by rw [show p2 (8 * 1) = 256 by decide]; omega
  have b2 : l < p2 (8 * 2) := by rw [show p2 (8 * 2) = 65536 by decide]; omega
  have b6 : q < p2 (8 * 6) := by rw [show p2 (8 * 6) = 281474976710656 by decide]; omega
  have b4 : e < p2 (8 * 4) := by rw [show p2 (8 * 4) = 4294967296 by decide]; omega
  have HN := Lib.hid (And.intro b1 (And.intro b2 (And.intro b6 b4)))
  clear b1 b2 b6 b4
  have hK := KT.first k l q e w 23
  go_enter Try.func7, Try.ntmps7
  go_wp2_with (refine wpList_load_row rfl 23 (.tmp 1) rfl w.heap.size rfl 23 (ta k l q e) (0, 0) _ (Blk.new w (ta k l q e) 23) Try.underlying23 rfl size_tag ?_)
  refine (tag_may k l q e _).mono ?_
  rintro r w1 ⟨rfl, hb1⟩
  have hK1 := hK.call hb1
  rw [HB.out]
  clear hK
  go_wp2_with fail
  have hE : EncW k l q e w1.heap.size encL0 w (w1.alloc (.cells (tca encL0) 33)) := ⟨Blk.new _ _ _, hK1.alloc _, cell_lt hK1.1⟩
  change Code.wp _ _ _ _ (w1.alloc (.cells (tca encL0) 33))
  generalize (w1.alloc (.cells (tca encL0) 33)) = w2 at hE ⊢
  generalize w1.heap.size = g at hE ⊢
  clear hb1 hK1
  obtain ⟨c0, c1, c2, c3, _⟩ := hE.2.1
  have HE0 := Lib.hid hE
  clear hE
  go_still_tail 3, (by kernel_rfl)
  change wpList _ _ _ _ _ w2.drew
  clear c0 c1 c2 c3
  go_wp2_with fail
  refine (tag_put g 1 1 15 k encL0 33 _ HE0.out.1.drew (by decide) (by decide) (by omega) (by omega) HN.out.1 (Nat.le_of_ble_eq_true rfl)).mono ?_
  rintro r w2d ⟨rfl, w2e, hb, rfl⟩
  have hE := EncW.put (L' := layL encL0 1 (bs (leS k 1))) HE0.out.drew hb
  generalize w2e.setRow g _ = w3 at hE ⊢
  clear hb HE0
  go_wp2_with fail
  obtain ⟨c0, c1, c2, c3, _⟩ := hE.2.1
  have HE1 := Lib.hid hE
  clear hE
  go_still_tail 3, (by kernel_rfl)
  change wpList _ _ _ _ _ w3.drew
  clear c0 c1 c2 c3
  go_wp2_with fail
  refine (tag_put g 2 2 14 l (layL encL0 1 (bs (leS k 1))) 33 _ HE1.out.1.drew (by decide) (by decide) (by omega) (by omega) HN.out.2.1 (Nat.le_of_ble_eq_true rfl)).mono ?_
  rintro r w3d ⟨rfl, w3e, hb, rfl⟩
  have hE := EncW.put (L' := layL (layL encL0 1 (bs (leS k 1))) 2 (bs (leS l 2))) HE1.out.drew hb
  generalize w3e.setRow g _ = w4 at hE ⊢
  clear hb HE1
  go_wp2_with fail
  obtain ⟨c0, c1, c2, c3, _⟩ := hE.2.1
  have HE2 := Lib.hid hE
  clear hE
  go_still_tail 3, (by kernel_rfl)
  change wpList _ _ _ _ _ w4.drew
  clear c0 c1 c2 c3
  go_wp2_with fail
  refine (tag_put g 4 6 12 q (layL (layL encL0 1 (bs (leS k 1))) 2 (bs (leS l 2))) 33 _ HE2.out.1.drew (by decide) (by decide) (by omega) (by omega) HN.out.2.2.1 (Nat.le_of_ble_eq_true rfl)).mono ?_
  rintro r w4d ⟨rfl, w4e, hb, rfl⟩
  have hE := EncW.put (L' := layL (layL (layL encL0 1 (bs (leS k 1))) 2 (bs (leS l 2))) 4 (bs (leS q 6))) HE2.out.drew hb
  generalize w4e.setRow g _ = w5 at hE ⊢
  clear hb HE2
  go_wp2_with fail
  obtain ⟨c0, c1, c2, c3, _⟩ := hE.2.1
  have HE3 := Lib.hid hE
  clear hE
  go_still_tail 3, (by kernel_rfl)
  change wpList _ _ _ _ _ w5.drew
  clear c0 c1 c2 c3
  go_wp2_with fail
  refine (tag_put g 10 4 6 e (layL (layL (layL encL0 1 (bs (leS k 1))) 2 (bs (leS l 2))) 4 (bs (leS q 6))) 33 _ HE3.out.1.drew (by decide) (by decide) (by omega) (by omega) HN.out.2.2.2 (Nat.le_of_ble_eq_true rfl)).mono ?_
  rintro r w5d ⟨rfl, w5e, hb, rfl⟩
  have hE := EncW.put (L' := layL (layL (layL (layL encL0 1 (bs (leS k 1))) 2 (bs (leS l 2))) 4 (bs (leS q 6))) 10 (bs (leS e 4))) HE3.out.drew hb
  generalize w5e.setRow g _ = w6 at hE ⊢
  clear hb HE3
  have hcp := fun ty => copy_lay g 14 2 2 (layL (layL (layL (layL encL0 1 (bs (leS k 1))) 2 (bs (leS l 2))) 4 (bs (leS q 6))) 10 (bs (leS e 4))) 33 w6 ⟨#[0, 0]⟩ ty hE.1 (by decide) (Nat.le_of_ble_eq_true rfl)
  have hcv := conv_tca (hE.1.put (tca (layL (layL (layL (layL (layL encL0 1 (bs (leS k 1))) 2 (bs (leS l 2))) 4 (bs (leS q 6))) 10 (bs (leS e 4))) 14 (bs ⟨#[0, 0]⟩)))) 16 16 rfl
  have HF := Lib.hid (below_put (Nat.le_of_lt hE.2.2) (tca (layL (layL (layL (layL (layL encL0 1 (bs (leS k 1))) 2 (bs (leS l 2))) 4 (bs (leS q 6))) 10 (bs (leS e 4))) 14 (bs ⟨#[0, 0]⟩))) hE.2.1.2.2.2.2)
  rw [HE.out] at hcv
  clear hE HN HE HB
  go_wp2_with fail
  go_ret2
  exact ⟨rfl, HF.out⟩

set_option maxRecDepth 100000 in
theorem tag_enc_no (k l q e : Int) (w : World) (hm : ¬ MayT k l q e) : Calls Try.prog 7 #[.agg (ta k l q e)] w fun r w' => r = .returned (.tuple #[.string ByteArray.empty, .int .i64 1]) ∧ Below w.heap.size w w' := by
  have HB : Hid (mayB k l q e = false) := by rw [← Bool.not_eq_true, mayB_iff]; exact hm
  clear hm
  have hK := KT.first k l q e w 23
  go_enter Try.func7, Try.ntmps7
  go_wp2_with (refine wpList_load_row rfl 23 (.tmp 1) rfl w.heap.size rfl 23 (ta k l q e) (0, 0) _ (Blk.new w (ta k l q e) 23) Try.underlying23 rfl size_tag ?_)
  refine (tag_may k l q e _).mono ?_
  rintro r w1 ⟨rfl, hb1⟩
  have HK1 := Lib.hid (hK.call hb1)
  rw [HB.out]
  clear hK hb1
  go_wp2_with fail
  go_ret2
  exact ⟨rfl, HK1.out.2.2.2.2⟩

theorem tag_enc (k l q e : Int) (w : World) : Calls Try.prog 7 #[.agg (ta k l q e)] w (EncT k l q e w) := by
  unfold EncT encT encE
  by_cases h : MayT k l q e
  · rw [if_pos h, if_pos h]; exact tag_enc_yes k l q e w h
  · rw [if_neg h, if_neg h]; exact tag_enc_no k l q e w h

end Go.Proofs.Ytgpegacbgjdogaa
