/- Package sheet, walked: fill. -/
import Derived.Test.YtklbmlnghindjaaDoorShC2
import Derived.Test.YtklbmlnghindjaaDoorShR3
import Derived.Lib.BufferWrite
namespace Go.Proofs.YtklbmlnghindjaaDoor
set_option maxRecDepth 100000
open Go.RowKit

/-- bytes as cells -/
def tcaX (l : List UInt8) : Array Value := (Lib.byteCells l).toArray
theorem tcaX_size (l : List UInt8) : (tcaX l).size = l.length := by simp [tcaX, Lib.byteCells]
/-- bytes laid over others, from a place on -/
def layX (l : List UInt8) (o : Nat) (m : List UInt8) : List UInt8 := l.take o ++ m ++ l.drop (o + m.length)
theorem tcaX_lay (l : List UInt8) (o : Nat) (m : List UInt8) : ((tcaX l).toList.take o ++ Lib.byteCells m ++ (tcaX l).toList.drop (o + m.length)).toArray = tcaX (layX l o m) := by
  simp [tcaX, layX, Lib.byteCells, List.map_append, List.map_take, List.map_drop]
theorem infoU8X : (Tryd.prog.info? 5).map (fun i => (i.zero, i.size, i.bytes)) = some (some (.int .u8 0), 1, 1) := by kernel_rfl
/-- copy of a text over a piece of a block of bytes -/
theorem copyX_lay (g o n cap : Nat) (l : List UInt8) (t : TypeId) (w : World) (s : ByteArray) (ty : TypeId) (h : Blk w g (tcaX l) t) (hs : s.size ≤ n) (hf : o + s.size ≤ l.length) :
    Sem.run Tryd.prog (Builtin.copy_ #[56, 9] ty #[.slice (some ⟨g, o, none⟩) n cap, .string s]) w = .ok (goInt s.size) (w.setRow g (tcaX (layX l o (bs s)))) := by
  obtain ⟨i0, hi, hz0, hz1, hz2⟩ := info_partsX infoU8X
  have e := Lib.run_copy_row_string (P := Tryd.prog) w 56 9 ty 5 g o n cap s (tcaX l) t Tryd.underlying56 (by rw [hi]; simp [hz1]) h hs (by rw [tcaX_size]; exact hf)
  have hl := tcaX_lay l o (bs s)
  rw [bs_length] at hl
  rw [e]
  unfold bs at hl ⊢
  rw [hl]
/-- a block of bytes, as a text -/
theorem conv_tcaX {w : World} {g : Nat} {L : List UInt8} {t : TypeId} (h : Blk w g (tcaX L) t) (n cap : Nat) (hn : L.length = n) :
    Sem.run Tryd.prog (convert 56 9 (.slice (some ⟨g, 0, none⟩) n cap)) w = .ok (.string ⟨L.toArray⟩) w := by
  have hr := run_convert_bytes_arg (P := Tryd.prog) w 56 5 Tryd.underlying56 Tryd.underlying5 g 0 n cap (L.map fun c => (c.toNat : Int)) (by simp; omega) (by
    intro i hi
    have h3 : i < L.length := by omega
    rw [Nat.zero_add, h.cell i]
    simp [List.getD, h3, tcaX, Lib.byteCells]) 9 Tryd.underlying9
  rw [hr]
  congr 2
  apply strOfNums_eq
  rw [List.map_map]
  have e : ((fun n : Int => UInt8.ofNat n.toNat) ∘ fun b : UInt8 => (b.toNat : Int)) = id := by funext b; simp
  rw [e, List.map_id]
theorem run_make_bytesX (n : Nat) (hn : n ≤ 1000) (w : World) : Sem.run Tryd.prog (Instr.makeSlice 56 (.int .i64 (n : Int)) (.int .i64 (n : Int))) w = .ok (.slice (some ⟨w.heap.size, 0, none⟩) n n) (w.alloc (.cells (tcaX (List.replicate n 0)) 5)) := by
  obtain ⟨i0, hi, hz0, hz1, hz2⟩ := info_partsX infoU8X
  have h := run_make (P := Tryd.prog) w 56 5 i0 _ Tryd.underlying56 hi hz0 .i64 .i64 (n : Int) (n : Int) (by omega) (Int.le_refl _) (by rw [hz2]; omega) (by omega)
  rw [hz1] at h
  have e : madeCells #[.int .u8 0] (n * 1) = tcaX (List.replicate n 0) := by
    apply Array.ext
    · rw [size_madeCells, tcaX_size, List.length_replicate, Nat.mul_one]
    · intro j h1 h2
      simp only [madeCells, tcaX, Lib.byteCells, Array.getElem_map, Array.getElem_range, List.getElem_toArray, List.getElem_map, List.getElem_replicate]
      rw [show (#[Value.int .u8 0] : Array Value).size = 1 from rfl, Nat.mod_one]
      rfl
  simp only [Int.toNat_natCast, Value.cells, e] at h
  exact h

/-- the page's bytes while it is filled -/
def pgL (n : Nat) (xs : List Rc) (i : Nat) : List UInt8 := accL xs.length (xs.take i) ++ List.replicate (n - (1 + 9 * i)) 0
theorem pgL_len (n : Nat) (xs : List Rc) (i : Nat) (hi : i ≤ xs.length) (hn : 1 + 9 * i ≤ n) : (pgL n xs i).length = n := by
  unfold pgL
  rw [List.length_append, accL_len, List.length_replicate, List.length_take]; omega
theorem accL_app (k : Nat) (l : List Rc) (x : Rc) : accL k (l ++ [x]) = accL k l ++ bs x.txt := by
  unfold accL
  rw [List.flatMap_append]
  simp
theorem pgL_lay (n : Nat) (xs : List Rc) (i : Nat) (hi : i < xs.length) : layX (pgL n xs i) (1 + 9 * i) (bs xs[i].txt) = pgL n xs (i + 1) := by
  have hl : (accL xs.length (xs.take i)).length = 1 + 9 * i := by rw [accL_len, List.length_take]; omega
  unfold layX pgL
  rw [txt_len, flat_take xs i hi, accL_app, List.take_append_of_le_length (by omega), List.take_of_length_le (by omega), List.drop_append, List.drop_eq_nil_of_le (by omega), List.nil_append, hl, List.drop_replicate]
  congr 2
  omega
theorem pgL_end (n : Nat) (xs : List Rc) : (⟨(pgL n xs xs.length).toArray⟩ : ByteArray) = pageX n xs := by
  unfold pgL pageX padT
  rw [List.take_of_length_le (Nat.le_refl _)]
  rfl
theorem pgL_start (n k : Nat) (xs : List Rc) (hk : xs.length = k) (hn : 1 ≤ n) (hk2 : k < 256) : (tcaX (List.replicate n 0)).setIfInBounds 0 (.int .u8 (k : Int)) = tcaX (pgL n xs 0) := by
  obtain ⟨m, rfl⟩ : ∃ m, n = m + 1 := ⟨n - 1, by omega⟩
  unfold tcaX pgL accL
  rw [hk, List.setIfInBounds_toArray]
  congr 1
  rw [show m + 1 - (1 + 9 * 0) = m by omega]
  have e : ((UInt8.ofNat k).toNat : Int) = (k : Int) := by rw [UInt8.toNat_ofNat']; have : k % 2 ^ 8 = k := Nat.mod_eq_of_lt hk2; omega
  simp [Lib.byteCells, List.replicate_succ]
  simpa using e.symm

/-- what fill answers -/
def FillT (n : Nat) (xs : List Rc) (w : World) (e : Ending) (w' : World) : Prop :=
  ((∀ x ∈ xs, MayX x) → e = .returned (.tuple #[.string (pageX n xs), .int .i64 0]))
  ∧ (¬ (∀ x ∈ xs, MayX x) → e = .returned (.tuple #[.string ByteArray.empty, .int .i64 110])) ∧ Below w.heap.size w w'

set_option maxHeartbeats 2000000 in
theorem sh_fill (oa : Option Addr) (cap : Nat) (xs : List Rc) (n : Nat) (h28 : xs.length ≤ 28) (hn : 1 + 9 * xs.length ≤ n) (hn2 : n ≤ 256) (w : World) (ha : XsAt w oa xs) :
    Calls Tryd.prog 22 #[.slice oa xs.length cap, .int .i64 n] w (FillT n xs w) := by
  have HA := Lib.hid ha
  have hmk := run_make_bytesX n (by omega) w
  obtain ⟨k, hk⟩ : ∃ k, xs.length = k := ⟨_, rfl⟩
  have HK := Lib.hid hk
  rw [hk] at h28 hn ⊢
  clear ha
  have hwk : IntKind.u8.wrap (k : Int) = (k : Int) := by rw [IntKind.wrap_u8]; omega
  obtain ⟨g, hg⟩ : ∃ g, w.heap.size = g := ⟨_, rfl⟩
  have hblk0 : Blk (w.alloc (.cells (tcaX (List.replicate n 0)) 5)) g (tcaX (List.replicate n 0)) 5 := by rw [← hg]; exact Blk.new _ _ _
  have hc0 : (w.alloc (.cells (tcaX (List.replicate n 0)) 5)).cell? ⟨g, 0, none⟩ = some (.int .u8 0) := by
    rw [hblk0.cell 0]
    obtain ⟨m, rfl⟩ : ∃ m, n = m + 1 := ⟨n - 1, by omega⟩
    simp [tcaX, Lib.byteCells, List.replicate_succ]
  have hf0 := hblk0.free 0
  have HB0 : Hid (Blk (w.alloc (.cells ((tcaX (List.replicate n 0)).setIfInBounds 0 (.int .u8 (k : Int))) 5)) g (tcaX (pgL n xs 0)) 5) := by
    show Blk _ _ _ _
    rw [pgL_start n k xs hk (by omega) (by omega), ← hg]; exact Blk.new _ _ _
  have HL0 : Hid (Below g w (w.alloc (.cells ((tcaX (List.replicate n 0)).setIfInBounds 0 (.int .u8 (k : Int))) 5))) := by
    show Below _ _ _
    rw [← hg]
    exact (Below.refl _ _).alloc (Nat.le_refl _) _
  have HG := Lib.hid hg
  have hln : (0 : Int) < (n : Int) := by omega
  clear hk hblk0
  go_enter Tryd.func22, Tryd.ntmps22
  rw [hg] at hmk
  go_wp2_with fail
  go_loopw [20] (fun iv wr => ∃ i : Nat, i ≤ k ∧ iv = .int .i64 i ∧ Hid (∀ j (hj : j < xs.length), j < i → MayX xs[j]) ∧ Hid (Blk wr g (tcaX (pgL n xs i)) 5) ∧ Hid (Below g w wr)) (fun iv _ => k - (intOf iv).toNat)
  case atStart => exact ⟨0, Nat.zero_le _, rfl, fun j _ hj => absurd hj (Nat.not_lt_zero _), HB0.out, HL0.out⟩
  case round =>
    obtain ⟨i, hi, rfl, HO, HBK, HBL⟩ := hrel
    by_cases hlt : i < k
    · have hltz : (i : Int) < (k : Int) := by omega
      have hix : i < xs.length := by have := HK.out; omega
      obtain ⟨x, hx⟩ : ∃ x, xs[i] = x := ⟨_, rfl⟩
      obtain ⟨b, off, rfl, hbl, hrow⟩ := HA.out (by intro h0; rw [h0] at hix; exact absurd hix (Nat.not_lt_zero _))
      have hr0 := hrow i hix
      have HBG : Hid (b < g) := by show b < g; rw [← HG.out]; exact hbl
      clear hbl hrow
      rw [hx] at hr0
      have hr1 : wr.rangeAt b (off + i * 3) [.int .i64 x.k, .int .i64 x.a, .int .i64 x.b] := fun j v hj => by
        rw [World.cell?_of_block (w := w) (HBL.out.block b HBG.out)]; exact hr0 j v hj
      have HR1 := Lib.hid hr1
      have hgw : g < wr.heap.size := HBK.out.lt
      obtain ⟨w3, hw3⟩ : ∃ w3, (wr.alloc (.cells (ra 0 0 0) 32)).setRow wr.heap.size (ra x.k x.a x.b) = w3 := ⟨_, rfl⟩
      have hk3 : Blk w3 wr.heap.size (ra x.k x.a x.b) 32 := by rw [← hw3]; exact (Blk.new _ _ _).put _
      have hg3 : Blk w3 g (tcaX (pgL n xs i)) 5 := by rw [← hw3]; exact (HBK.out.alloc _).put_other (by omega) _
      have hb3 : Below g w w3 := by rw [← hw3]; exact below_put (by omega) _ (HBL.out.alloc (by omega) _)
      have K3 := Lib.hid hk3
      have G3 := Lib.hid hg3
      have B3 := Lib.hid hb3
      have HW3 := Lib.hid hw3
      have HX := Lib.hid hx
      clear hr0 hr1 hk3 hg3 hb3 hw3 hx hlt HBK HBL
      go_wp2_with (first
        | (refine wpList_load_mid rfl 32 _ rfl b (off + i * 3) rfl [.int .i64 x.k, .int .i64 x.a, .int .i64 x.b] _ HR1.out Tryd.underlying32 rfl size_rec ?_)
        | (refine wpList_store_row rfl 32 (.tmp 8) (.tmp 24) rfl wr.heap.size (ra x.k x.a x.b) rfl rfl 32 (ra 0 0 0) (Blk.new wr (ra 0 0 0) 32) size_rec rfl (ra_one _ _ _) ?_; change wpList _ _ _ _ _ ((wr.alloc (.cells (ra 0 0 0) 32)).setRow wr.heap.size (ra x.k x.a x.b)); rw [HW3.out])
        | (refine wpList_load_row rfl 32 (.tmp 8) rfl wr.heap.size rfl 32 (ra x.k x.a x.b) (0, 0) _ K3.out Tryd.underlying32 rfl size_rec ?_))
      refine (rec_put x.k x.a x.b w3).mono ?_
      rintro e w4 ⟨rfl, hb4⟩
      by_cases hmx : MayR x.k x.a x.b
      · have h1 : putRT x.k x.a x.b = x.txt := if_pos hmx
        have h2 : putRE x.k x.a x.b = 0 := if_pos hmx
        rw [h1, h2]
        obtain ⟨t, ht⟩ : ∃ t, x.txt = t := ⟨_, rfl⟩
        have hts : t.size = 9 := by rw [← ht]; exact recS_size _ _ _
        have hg4 : Blk w4 g (tcaX (pgL n xs i)) 5 := G3.out.after hb4
        have hb5 : Below g w w4 := B3.out.trans (hb4.mono (by have := G3.out.lt; omega))
        have hpl : (pgL n xs i).length = n := pgL_len n xs i (by omega) (by omega)
        have hlay : layX (pgL n xs i) (1 + 9 * i) (bs t) = pgL n xs (i + 1) := by
          rw [← ht]
          have h5 := pgL_lay n xs i hix
          rwa [show xs[i] = x from HX.out] at h5
        have hcp := fun ty => copyX_lay g (1 + 9 * i) (n - (1 + 9 * i)) (n - (1 + 9 * i)) (pgL n xs i) 5 w4 t ty hg4 (by omega) (by omega)
        rw [hlay] at hcp
        have HO2 : Hid (∀ j (hj : j < xs.length), j < i + 1 → MayX xs[j]) := fun j hj h3 => by
          rcases Nat.lt_or_ge j i with h4 | h4
          · exact HO.out j hj h4
          · obtain rfl : j = i := by omega
            rw [show xs[j] = x from HX.out]; exact hmx
        have HBK2 : Hid (Blk (w4.setRow g (tcaX (pgL n xs (i + 1)))) g (tcaX (pgL n xs (i + 1))) 5) := hg4.put _
        have HBL2 : Hid (Below g w (w4.setRow g (tcaX (pgL n xs (i + 1))))) := below_put (Nat.le_refl _) _ hb5
        rw [ht]
        have hx1 : (1 + (i : Int) * 9).toNat = 1 + 9 * i := by omega
        have hx2 : 1 + (i : Int) * 9 ≤ (n : Int) := by omega
        clear h1 h2 hmx ht hg4 hb5 hpl hlay HO hb4 HR1 K3 G3 B3 HW3 HX
        go_wp2_with fail
        go_roundw
        case rel => exact ⟨i + 1, by omega, by go_num, HO2, HBK2, HBL2⟩
        case measure => simp [intOf]; omega
      · have h1 : putRT x.k x.a x.b = ByteArray.empty := if_neg hmx
        have h2 : putRE x.k x.a x.b = 110 := if_neg hmx
        rw [h1, h2]
        have hno : ¬ ∀ y ∈ xs, MayX y := fun hal => hmx (by have := hal xs[i] (List.getElem_mem hix); rw [HX.out] at this; exact this)
        have hb5 : Below g w w4 := B3.out.trans (hb4.mono (by have := G3.out.lt; omega))
        rw [← HG.out] at hb5
        have HNO := Lib.hid hno
        have HB5 := Lib.hid hb5
        clear h1 h2 hmx hno hb5 hb4 HO HR1 K3 G3 B3 HW3 HX
        go_wp2_with fail
        go_ret2
        exact ⟨fun h => absurd h HNO.out, fun _ => rfl, HB5.out⟩
    · obtain rfl : i = k := by omega
      have hltz : ¬ (i : Int) < (i : Int) := by omega
      have hcv := conv_tcaX HBK.out n n (by rw [pgL_len n xs i (by have := HK.out; omega) hn])
      have hend : (⟨(pgL n xs i).toArray⟩ : ByteArray) = pageX n xs := by rw [← HK.out]; exact pgL_end n xs
      rw [hend] at hcv
      have hall : ∀ x ∈ xs, MayX x := fun x hx => by
        obtain ⟨j, hj, rfl⟩ := List.getElem_of_mem hx
        exact HO.out j hj (by have := HK.out; omega)
      have hb5 := HBL.out
      rw [← HG.out] at hb5
      have HALL := Lib.hid hall
      have HB5 := Lib.hid hb5
      clear hend hall hb5 hlt
      go_wp2_with fail
      go_ret2
      exact ⟨fun _ => rfl, fun h => absurd HALL.out h, HB5.out⟩

end Go.Proofs.YtklbmlnghindjaaDoor
