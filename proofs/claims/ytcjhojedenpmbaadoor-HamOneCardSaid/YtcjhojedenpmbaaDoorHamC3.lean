/- Contracts of package ham: turned. -/
import Derived.Test.YtcjhojedenpmbaaDoorHamC2
namespace Go.Proofs.YtcjhojedenpmbaaDoor
open Go.RowKit

/-- a whole array out of a variable whose cells are known one by one -/
theorem wpList_load_cells {P : Program} {ops : Array Oper} {rest : List Oper} {o : Oper} {a : Act} {w : World} {Q : Exit → Act → World → Prop} (hgd : o.guard = none) (ty : TypeId) (x : Operand) (ho : o.op = .load ty x)
    (g : Nat) (hx : a.eval x = .pointer (some ⟨g, 0, none⟩)) (cs : List Value) (d : TypeDesc) (hc : ∀ j v, cs[j]? = some v → w.cell? ⟨g, j, none⟩ = some v)
    (hu : P.underlying ty = some d) (hd : (match d with | .struct _ | .array _ _ => true | _ => false) = true) (hi : (P.info? ty).map (·.size) = some cs.length)
    (h : wpList P ops Q rest (a.put o.dst (.agg cs.toArray)) w) : wpList P ops Q (o :: rest) a w := by
  refine wpList_plain hgd fun K hK => ?_
  have hl : (loadCells ⟨g, 0, none⟩ cs.length).run P w = .ok cs.toArray w :=
    run_loadCells_list (P := P) w ⟨g, 0, none⟩ cs (fun j v hv => by
      have hadd : (⟨g, 0, none⟩ : Addr).add j = ⟨g, j, none⟩ := by unfold Addr.add; split <;> simp_all
      rw [hadd]; exact hc j v hv)
  have hrun : (loadVar ty ⟨g, 0, none⟩).run P w = .ok (.agg cs.toArray) w := by
    cases hq : P.info? ty with
    | none => simp [hq] at hi
    | some i =>
      have hs : i.size = cs.length := by simpa [hq] using hi
      have hagg : (isAgg ty).run P w = .ok true w := by
        unfold isAgg
        rw [Sem.run_bind, run_underlying hu w]
        cases d <;> simp_all
      simp [loadVar, Sem.run_bind, hagg, sizeOf, typeInfo, hq, hs, hl]
  unfold Oper.wp execOp
  simp only [ho, hx, Instr.loadAt, Instr.sureAddr, Sem.run_bind, Sem.run_pure, Result.andThen_ok, hrun]
  exact hK _ _ h

def plL : List Value := (List.range 64).map fun i => Value.int .u8 ((place i : Nat) : Int)
theorem plL_length : plL.length = 64 := by simp [plL]
theorem plL_at {j : Nat} {v : Value} (h : plL[j]? = some v) : j < 64 ∧ v = .int .u8 ((place j : Nat) : Int) := by
  have hj : j < plL.length := (List.getElem?_eq_some_iff.1 h).1
  rw [plL_length] at hj
  refine ⟨hj, ?_⟩
  simp [plL, hj] at h
  exact h.symm
theorem size_pl : (Tryd.prog.info? 49).map (·.size) = some plL.length := by rw [plL_length]; kernel_rfl
theorem index_pl (k : Nat) (hk : k < 64) (w : World) : (Instr.index 49 (.agg plL.toArray) (.int .i64 (k : Int))).run Tryd.prog w = .ok (.int .u8 ((place k : Nat) : Int)) w := by
  obtain ⟨i0, hi, hz0, hz1, hz2⟩ := info_parts Tryd.infoU8
  have h : plL.toArray[k]? = some (.int .u8 ((place k : Nat) : Int)) := by simp [plL, hk]
  have hu := Tryd.underlying49
  have hk2 : k < plL.length := by rw [plL_length]; exact hk
  have h' : plL[k]? = some (.int .u8 ((place k : Nat) : Int)) := by simp [plL, hk]
  simp [Instr.index, asIntOf, run_underlying hu, hk, part, sizeOf, typeInfo, hi, hz1, isAgg, run_underlying Tryd.underlying5, h', go_sem]

theorem xor_pow (b r : Nat) (hb : b < 256) (hr : r < 8) : bits .xor .u8 (b : Int) (2 ^ r % 256) = ((b ^^^ 2 ^ r : Nat) : Int) := by
  have h : ∀ b : Nat, b < 256 → ∀ r : Nat, r < 8 → bits .xor .u8 (b : Int) (2 ^ r % 256) = ((b ^^^ 2 ^ r : Nat) : Int) := by decide +kernel
  exact h b hb r hr

/-- a block of nine cells -/
def ChunkAt (w : World) (b : Nat) (l : List UInt8) : Prop := w.heap[b]? = some (.cells (ca l) 36 (0, 0))
theorem ChunkAt.cell {w : World} {b : Nat} {l : List UInt8} (h : ChunkAt w b l) (i : Nat) (hi : i < l.length) : w.cell? ⟨b, i, none⟩ = some (.int .u8 (by_ l i : Int)) := by
  have h2 : w.cell? ⟨b, i, none⟩ = (ca l)[i]? := by unfold ChunkAt at h; simp [World.cell?, h]
  rw [h2]; exact ca_by l i hi
theorem ChunkAt.free {w : World} {b : Nat} {l : List UInt8} (h : ChunkAt w b l) (i : Nat) : w.frozen? ⟨b, i, none⟩ = false := by
  unfold ChunkAt at h; simp [World.frozen?, h]
theorem ChunkAt.alloc {w : World} {b : Nat} {l : List UInt8} (h : ChunkAt w b l) (o : Obj) : ChunkAt (w.alloc o) b l := by
  have hb : b < w.heap.size := (Array.getElem?_eq_some_iff.1 h).1
  unfold ChunkAt at *
  rw [heap_alloc_old _ _ hb]; exact h
theorem ChunkAt.new (w : World) (l : List UInt8) : ChunkAt (w.alloc (.cells (ca l) 36)) w.heap.size l := heap_alloc_new _ _
theorem ChunkAt.drew {w : World} {b : Nat} {l : List UInt8} (h : ChunkAt w b l) : ChunkAt w.drew b l := h
theorem ChunkAt.set {w : World} {b : Nat} {l : List UInt8} (h : ChunkAt w b l) (i : Nat) (v : Value) (m : List UInt8) (he : (ca l).setIfInBounds i v = ca m) : ChunkAt (w.setCell ⟨b, i, none⟩ v) b m := by
  unfold ChunkAt at *
  rw [heap_setCell_same _ _ _ _ _ _ h, he]
theorem ChunkAt.set_other {w : World} {b c : Nat} {l : List UInt8} (h : ChunkAt w b l) (hne : c ≠ b) (i : Nat) (v : Value) : ChunkAt (w.setCell ⟨c, i, none⟩ v) b l := by
  unfold ChunkAt at *
  rw [Below.heap_setCell _ _ _ _ (Ne.symm hne)]; exact h
theorem ChunkAt.put {w : World} {b : Nat} {l m : List UInt8} (h : ChunkAt w b l) : ChunkAt (w.setRow b (ca m)) b m := by
  unfold ChunkAt at *
  exact setRow_heap w b (ca l) (ca m) _ _ h
theorem ca_one (l : List UInt8) : (ca l).all (·.oneCell') = true := by
  rw [Array.all_eq_true_iff_forall_mem]
  intro v hv
  simp [ca, Lib.byteCells] at hv
  obtain ⟨b, _, rfl⟩ := hv
  rfl
theorem below_setRow {B g : Nat} {a w : World} (hB : B ≤ g) (cs : Array Value) (h : Below B a w) : Below B a (w.setRow g cs) := by
  have hk : ∀ k, k < B → (w.setRow g cs).heap[k]? = w.heap[k]? := by
    intro k hk
    simp only [World.setRow, Array.getElem?_modify]
    rw [if_neg (by omega)]
  obtain ⟨h1, h2, h3, h4, h5⟩ := h
  exact ⟨h1, h2, h3, by rw [size_setRow]; exact h4, fun k hk2 => by rw [hk k hk2]; exact h5 k hk2⟩
theorem zero_ca : (#[.int .u8 0, .int .u8 0, .int .u8 0, .int .u8 0, .int .u8 0, .int .u8 0, .int .u8 0, .int .u8 0, .int .u8 0] : Array Value) = ca (List.replicate 9 0) := rfl

set_option maxRecDepth 100000 in
theorem turned_any (l : List UInt8) (p : Nat) (w : World) (hl : l.length = 9) (hp : p ≤ 71) (hT : ∀ i, i < 64 → w.cell? ⟨0, i, none⟩ = some (.int .u8 ((place i : Nat) : Int))) (hg : 0 < w.heap.size) :
    Calls Tryd.prog 21 #[.agg (ca l), .int .u8 p] w fun e w' => e = .returned (.agg (ca (turnL l p 64))) ∧ Below w.heap.size w w' := by
  have HL := Lib.hid hl
  obtain ⟨zr, hzr⟩ : ∃ zr : List UInt8, List.replicate 9 0 = zr := ⟨_, rfl⟩
  have HZ : Hid (zr.length = 9) := by rw [← hzr]; rfl
  have hz := zero_ca
  rw [hzr] at hz
  have HZC := Lib.hid hz
  clear hz hzr
  have HT := Lib.hid hT
  clear hT hl
  go_enter Tryd.func21, Tryd.ntmps21
  go_wp2_with (refine wpList_load_cells rfl 49 (.global 0) rfl 0 rfl plL _ ?hc Tryd.underlying49 rfl size_pl ?_)
  case hc => intro j v hv; obtain ⟨hj, rfl⟩ := plL_at hv; go_simp; exact HT.out j hj
  go_loopw [8] (fun i wr => ∃ k : Nat, k ≤ 64 ∧ i = .int .i64 k ∧ ChunkAt wr w.heap.size (turnL l p k) ∧ ChunkAt wr (w.heap.size + 1) zr ∧ Below w.heap.size w wr) (fun i _ => 64 - (intOf i).toNat)
  case atStart => exact ⟨0, by omega, rfl, (ChunkAt.new w l).alloc _, by rw [HZC.out]; have h := ChunkAt.new (w.alloc (.cells (ca l) 36)) zr; rwa [show (w.alloc (.cells (ca l) 36)).heap.size = w.heap.size + 1 by simp] at h, ((Below.refl _ _).alloc (Nat.le_refl _) _).alloc (by simp) _⟩
  case round =>
    obtain ⟨k, hk, rfl, hc, hz, hb⟩ := hrel
    obtain ⟨wo, rfl⟩ : ∃ wo : World, wo = wr := ⟨_, rfl⟩
    have HB := Lib.hid hb
    have HZ2 := Lib.hid hz
    clear hb hz
    by_cases hlt : k < 64
    · have hip := fun w => index_pl k hlt w
      obtain ⟨x, hxe⟩ : ∃ x, place k = x := ⟨_, rfl⟩
      rw [hxe] at hip
      by_cases hx : x = p
      · subst hx
        obtain ⟨e1, e2⟩ := turnL_hit l x k x hp hlt hxe rfl
        rw [e1] at hc
        obtain ⟨q, hq⟩ : ∃ q, k / 8 = q := ⟨_, rfl⟩
        obtain ⟨r, hr⟩ : ∃ r, k % 8 = r := ⟨_, rfl⟩
        have hq2 : (k : Int) / 8 = q := by omega
        have hr2 : (k : Int) % 8 = r := by omega
        have hq8 : q < 8 := by omega
        have hr8 : r < 8 := by omega
        rw [hq, hr] at e2
        have hcell := hc.cell q (by rw [HL.out]; omega)
        have hfree := hc.free q
        have hflip := ca_flip l q r hr8
        have hxp := xor_pow (by_ l q) r (by_lt l q) hr8
        obtain ⟨b, hbe⟩ : ∃ b, by_ l q = b := ⟨_, rfl⟩
        rw [hbe] at hcell hflip hxp
        rw [← hxp] at hflip
        have HX := Lib.hid hxp
        have HF := Lib.hid hflip
        have HC := Lib.hid hc
        have HE := Lib.hid e2
        have HP := Lib.hid hxe
        clear hflip hc e1 e2 hq hr hbe hxe hxp
        go_wp2
        go_region
        go_wp2
        go_roundw
        case rel => exact ⟨k + 1, by omega, by go_num, by rw [HE.out]; exact (HC.out.set q _ _ HF.out).drew, (HZ2.out.set_other (by omega) _ _).drew, (HB.out.setCell (Nat.le_refl _) _).drew⟩
        case measure => simp [intOf]; omega
      · have hxb : ((x : Int) == (p : Int)) = false := by simp; omega
        have HE := Lib.hid (turnL_miss l p k x hp hxe hx)
        have HC := Lib.hid hc
        clear hc hxe hx
        go_wp2
        go_roundw
        case rel => exact ⟨k + 1, by omega, by go_num, by rw [HE.out]; exact HC.out, HZ2.out, HB.out⟩
        case measure => simp [intOf]; omega
    · obtain rfl : k = 64 := by omega
      obtain ⟨m, hm⟩ : ∃ m, turnL l p 64 = m := ⟨_, rfl⟩
      have hml : m.length = 9 := by rw [← hm, turnL_length]; exact HL.out
      rw [hm] at hc
      have HM := Lib.hid hm
      have HC := Lib.hid hc
      have hs := size_ca m hml
      have hso : (ca zr).size = (ca m).size := by rw [ca_size, ca_size, HZ.out, hml]
      have HSO := Lib.hid hso
      clear hm hc hso hml
      go_wp2_with (first
        | (refine wpList_load_row rfl 36 (.tmp 2) rfl w.heap.size rfl 36 (ca m) (0, 0) _ HC.out Tryd.underlying36 rfl hs ?_)
        | (refine wpList_store_row rfl 36 (.tmp 4) (.tmp 25) rfl (w.heap.size + 1) (ca m) rfl rfl 36 (ca zr) HZ2.out hs HSO.out (ca_one m) ?_))
      have hR := HZ2.out.put (m := m)
      refine bodyPost_ret (results_cell_row (P := Tryd.prog) rfl _ _ (w.heap.size + 1) 36 (ca m) (0, 0) _ rfl hR Tryd.underlying36 rfl hs) rfl ⟨by rw [HM.out], below_setRow (by omega) _ HB.out⟩

end Go.Proofs.YtcjhojedenpmbaaDoor
