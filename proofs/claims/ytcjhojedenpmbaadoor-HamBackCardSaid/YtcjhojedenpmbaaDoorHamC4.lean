/- Contracts of package ham: Encode, Decode. -/
import Derived.Test.YtcjhojedenpmbaaDoorHamC3
import Derived.Deep.RegionWith
import Derived.Deep.WholeRow
namespace Go.Proofs.YtcjhojedenpmbaaDoor
open Go.RowKit

/-- the table of places, as the program's text lays it -/
def TabAt (w : World) : Prop := ∀ i, i < 64 → w.cell? ⟨0, i, none⟩ = some (.int .u8 ((place i : Nat) : Int))
theorem TabAt.below {w w' : World} {B : Nat} (h : TabAt w) (hb : Below B w w') (hB : 0 < B) : TabAt w' := by
  intro i hi
  rw [hb.cell (p := ⟨0, i, none⟩) hB]; exact h i hi
theorem tab_place : ∀ i, i < 64 → ([3, 5, 6, 7, 9, 10, 11, 12, 13, 14, 15, 17, 18, 19, 20, 21, 22, 23, 24, 25, 26, 27, 28, 29, 30, 31, 33, 34, 35, 36, 37, 38, 39, 40, 41, 42, 43, 44, 45, 46, 47, 48, 49, 50, 51, 52, 53, 54, 55, 56, 57, 58, 59, 60, 61, 62, 63, 65, 66, 67, 68, 69, 70, 71] : List Int).getD i 0 = ((place i : Nat) : Int) := by decide +kernel
theorem tabAt_of {w : World} (h : ∀ i, i < 64 → w.cell? ⟨0, i, none⟩ = some (.int .u8 (([3, 5, 6, 7, 9, 10, 11, 12, 13, 14, 15, 17, 18, 19, 20, 21, 22, 23, 24, 25, 26, 27, 28, 29, 30, 31, 33, 34, 35, 36, 37, 38, 39, 40, 41, 42, 43, 44, 45, 46, 47, 48, 49, 50, 51, 52, 53, 54, 55, 56, 57, 58, 59, 60, 61, 62, 63, 65, 66, 67, 68, 69, 70, 71] : List Int).getD i 0))) : TabAt w := by
  intro i hi
  rw [h i hi, tab_place i hi]

theorem ChunkAt.below {w w' : World} {b B : Nat} {l : List UInt8} (h : ChunkAt w b l) (hb : Below B w w') (hB : b < B) : ChunkAt w' b l := by
  unfold ChunkAt at *
  rw [hb.block b hB]; exact h
theorem ChunkAt.lt {w : World} {b : Nat} {l : List UInt8} (h : ChunkAt w b l) : b < w.heap.size := (Array.getElem?_eq_some_iff.1 h).1
theorem ChunkAt.after {w w' : World} {b : Nat} {l : List UInt8} (h : ChunkAt w b l) (hb : Below w.heap.size w w') : ChunkAt w' b l := h.below hb h.lt
/-- the first bytes of a chunk, as a text -/
theorem ChunkAt.conv {w : World} {b : Nat} {l : List UInt8} (h : ChunkAt w b l) (n cap : Nat) (hn : n ≤ l.length) :
    Sem.run Tryd.prog (convert 37 9 (.slice (some ⟨b, 0, none⟩) n cap)) w = .ok (.string ⟨(l.take n).toArray⟩) w := by
  have hr := run_convert_bytes_arg (P := Tryd.prog) w 37 5 Tryd.underlying37 Tryd.underlying5 b 0 n cap ((l.take n).map fun c => (c.toNat : Int)) (by simp; omega) (by
    intro i hi
    rw [Nat.zero_add, h.cell i (by omega)]
    have h3 : i < l.length := by omega
    simp [List.getD, by_, h3, List.getElem?_take_of_lt hi]) 9 Tryd.underlying9
  rw [hr]
  congr 2
  apply strOfNums_eq
  rw [List.map_map]
  have e : ((fun n : Int => UInt8.ofNat n.toNat) ∘ fun b : UInt8 => (b.toNat : Int)) = id := by funext b; simp
  rw [e, List.map_id]

/-- copy(c[:], s) into a new chunk of zeros -/
theorem copy_chunk (s : ByteArray) (w : World) (hs : s.size ≤ 9) (ty : TypeId) :
    Sem.run Tryd.prog (Builtin.copy_ #[37, 9] ty #[.slice (some ⟨w.heap.size, 0, none⟩) 9 9, .string s]) (w.alloc (.cells #[.int .u8 0, .int .u8 0, .int .u8 0, .int .u8 0, .int .u8 0, .int .u8 0, .int .u8 0, .int .u8 0, .int .u8 0] 36))
      = .ok (goInt s.size) (w.alloc (.cells (ca (bs s ++ List.replicate (9 - s.size) 0)) 36)) := by
  obtain ⟨i0, hi, hz0, hz1, hz2⟩ := info_parts Tryd.infoU8
  have h := Lib.run_copy_row_string (P := Tryd.prog) (w.alloc (.cells (ca (List.replicate 9 0)) 36)) 37 9 ty 5 w.heap.size 0 9 9 s (ca (List.replicate 9 0)) 36 Tryd.underlying37 (by rw [hi]; simp [hz1]) (heap_alloc_new _ _) hs (by rw [ca_size]; simp; omega)
  rw [zero_ca, h, World.setRow_alloc_new]
  congr 3
  have e : (ca (List.replicate 9 0)).toList = Lib.byteCells (List.replicate 9 0) := rfl
  rw [e]
  unfold ca
  congr 1
  rw [List.take_zero, List.nil_append]
  unfold Lib.byteCells bs
  rw [List.map_append, ← List.map_drop, List.drop_replicate, Nat.zero_add]

theorem num_zeros (l : List UInt8) : ∀ n, numN (l ++ List.replicate n 0) = numN l := by
  intro n
  rw [numN_append]
  have h : numN (List.replicate n 0) = 0 := by
    induction n with
    | zero => rfl
    | succ n ih => simp only [List.replicate_succ, numN, ih]; rfl
  rw [h, Nat.mul_zero, Nat.add_zero]

/-- the state of Encode: the bytes, and the check with its last bit or without -/
def encL (s : ByteArray) (x : Nat) : List UInt8 := bs s ++ [UInt8.ofNat x]
theorem encL_length (s : ByteArray) (x : Nat) (h : s.size = 8) : (encL s x).length = 9 := by simp [encL, bs_length, h]
theorem encL_by (s : ByteArray) (x : Nat) (h : s.size = 8) (hx : x < 256) : by_ (encL s x) 8 = x := by
  have e : (encL s x).getD 8 0 = UInt8.ofNat x := by
    have h8 : (bs s).length = 8 := by rw [bs_length, h]
    simp [encL, List.getD, h8]
  unfold by_
  rw [e]
  simp; omega
theorem encL_set (s : ByteArray) (x y : Nat) (h : s.size = 8) (hy : y < 256) : (ca (encL s x)).setIfInBounds 8 (.int .u8 (y : Int)) = ca (encL s y) := by
  rw [ca_set _ _ _ hy]
  congr 1
  unfold encL
  have h8 : (bs s).length = 8 := by rw [bs_length, h]
  rw [show 8 = (bs s).length + 0 by omega, List.set_append_right _ _ (by omega)]
  simp
theorem encL_num (s : ByteArray) (x : Nat) (h : s.size = 8) (hx : x < 256) : numN (encL s x) = numN (bs s) ^^^ 2 ^ 64 * x := by
  unfold encL
  have hn : numN [UInt8.ofNat x] = x := by
    show (UInt8.ofNat x).toNat + 256 * 0 = _
    simp; omega
  rw [numN_append, bs_length, h, hn]
  exact add_xor _ _ _ (num_lt s h)
theorem encL_left (s : ByteArray) (h : s.size = 8) : left (numN (encL s 0)) 72 = left (numN (bs s)) 64 := by
  rw [encL_num s 0 h (by decide), Nat.mul_zero, Nat.xor_zero, left_64 (num_lt s h)]
theorem encL_odd (s : ByteArray) (h : s.size = 8) : oddB (encL s (left (numN (bs s)) 64)) = decide ((cnt (numN (bs s)) 64 + cnt (left (numN (bs s)) 64) 7) % 2 = 1) := by
  have hl := left_lt (numN (bs s)) 64
  unfold oddB
  rw [encL_num s _ h (by omega)]
  have h1 := check_cnt (p := left (numN (bs s)) 64) (q := 0) hl (by decide)
  rw [cnt_xor, cnt_64 (num_lt s h)]
  rw [Nat.mul_zero, Nat.add_zero] at h1
  rw [h1, Nat.add_zero]
theorem encS_eq (s : ByteArray) (x : Nat) (h : s.size = 8) (he : encN (numN (bs s)) = x) : (⟨((encL s x).take 9).toArray⟩ : ByteArray) = encS s := by
  rw [List.take_of_length_le (by rw [encL_length s x h]; omega), ← he]; rfl
theorem encL_start (s : ByteArray) (h : s.size = 8) : bs s ++ List.replicate (9 - s.size) 0 = encL s 0 := by rw [h]; rfl

set_option maxRecDepth 100000 in
theorem enc_no (s : ByteArray) (w : World) (h : s.size ≠ 8) (hm : s.size ≤ maxLen) :
    Calls Tryd.prog 10 #[.string s] w fun e w' => e = .returned (.tuple #[.string ByteArray.empty, .int .i64 4]) ∧ Below w.heap.size w w' := by
  have hm2 : (s.size : Int) ≤ 9223372036854775807 := by unfold maxLen at hm; omega
  have h2 : (s.size : Int) ≠ 8 := by omega
  clear hm
  go_enter Tryd.func10, Tryd.ntmps10
  go_wp2
  go_ret2
  exact ⟨rfl, (Below.refl _ _).alloc (Nat.le_refl _) _⟩

set_option maxRecDepth 100000 in
theorem enc_yes_at (s : ByteArray) (w : World) (h : s.size = 8) (hT : TabAt w) (hg : 0 < w.heap.size) : Calls Tryd.prog 10 #[.string s] w (EncPost s w) := by
  have hcp := fun ty => copy_chunk s w (by omega) ty
  rw [encL_start s h] at hcp
  have h8 : (s.size : Int) = 8 := by omega
  have hl0 := encL_length s 0 h
  have hs0 := size_ca (encL s 0) hl0
  have HLL := Lib.hid (encL_left s h)
  have HLO := Lib.hid (encL_odd s h)
  have HLS := Lib.hid (fun x he => encS_eq s x h he)
  have HLen := Lib.hid (fun x => encL_length s x h)
  have HSet := Lib.hid (fun x y hy => encL_set s x y h hy)
  have HBy := Lib.hid (fun x hx => encL_by s x h hx)
  have HEN : Hid (encN (numN (bs s)) = left (numN (bs s)) 64 + 128 * ((cnt (numN (bs s)) 64 + cnt (left (numN (bs s)) 64) 7) % 2)) := rfl
  have hL := left_lt (numN (bs s)) 64
  obtain ⟨L, hLe⟩ : ∃ L, left (numN (bs s)) 64 = L := ⟨_, rfl⟩
  obtain ⟨C, hCe⟩ : ∃ C, cnt (numN (bs s)) 64 + cnt L 7 = C := ⟨_, rfl⟩
  rw [hLe] at HLL HLO hL HEN
  rw [hCe] at HLO HEN
  clear hLe hCe
  have HT := Lib.hid hT
  clear hT
  go_enter Tryd.func10, Tryd.ntmps10
  go_wp2_with (refine wpList_load_row rfl 36 (.tmp 4) rfl w.heap.size rfl 36 (ca (encL s 0)) (0, 0) _ (heap_alloc_new _ _) Tryd.underlying36 rfl hs0 ?_)
  refine (left_any (encL s 0) _ hl0 (HT.out.below ((Below.refl _ _).alloc (Nat.le_refl _) _) hg) (by simp <;> omega)).mono ?_
  rintro e w1 ⟨rfl, hb1⟩
  rw [HLL.out]
  have hC1 : ChunkAt w1 w.heap.size (encL s 0) := (ChunkAt.new w (encL s 0)).after hb1
  have HB1 : Hid (Below w.heap.size w w1) := ((Below.refl _ _).alloc (Nat.le_refl _) _).trans (hb1.mono (by simp))
  have hcell := hC1.cell 8 (by rw [hl0]; omega)
  have hfree := hC1.free 8
  have HS := Lib.hid (HSet.out 0 L (by omega))
  have HC1 := Lib.hid hC1
  have hsL := size_ca (encL s L) (HLen.out L)
  clear hb1 hC1 hs0 hl0 hcp
  go_wp2_with (refine wpList_load_row rfl 36 (.tmp 4) rfl w.heap.size rfl 36 (ca (encL s L)) (0, 0) _ (HC1.out.set 8 _ _ HS.out) Tryd.underlying36 rfl hsL ?_)
  refine (odd_any (encL s L) _ (HLen.out L)).mono ?_
  rintro e w2 ⟨rfl, hb2⟩
  rw [HLO.out]
  have hC2 : ChunkAt w2 w.heap.size (encL s L) := (HC1.out.set 8 _ _ HS.out).after hb2
  have HB2 : Hid (Below w.heap.size w w2) := (HB1.out.setCell (Nat.le_refl _) _).trans (hb2.mono (by simpa using HB1.out.size))
  clear hb2 hcell hfree hsL
  by_cases hC : C % 2 = 1
  · obtain ⟨y, hy⟩ : ∃ y, L + 128 = y := ⟨_, rfl⟩
    rw [decide_eq_true hC]
    have hcell := hC2.cell 8 (by rw [HLen.out]; omega)
    rw [HBy.out L (by omega)] at hcell
    have hfree := hC2.free 8
    have hor := or_top L hL
    rw [hy] at hor
    have hC3 := hC2.set 8 _ _ (HSet.out L y (by omega))
    have hcv := hC3.conv 9 9 (by rw [HLen.out]; omega)
    have HE : Hid ((⟨((encL s y).take 9).toArray⟩ : ByteArray) = encS s) := HLS.out y (by rw [HEN.out, ← hy, hC])
    clear hC3 hC2 hy hC
    go_wp2
    go_ret2
    exact ⟨ret_str HE.out, HB2.out.setCell (Nat.le_refl _) _⟩
  · rw [decide_eq_false hC]
    have hcv := hC2.conv 9 9 (by rw [HLen.out]; omega)
    have HE : Hid ((⟨((encL s L).take 9).toArray⟩ : ByteArray) = encS s) := HLS.out L (by rw [HEN.out]; omega)
    clear hC2 hC
    go_wp2
    go_ret2
    exact ⟨ret_str HE.out, HB2.out⟩

theorem enc_yes (s : ByteArray) (w : World) (h : s.size = 8) (hT : TabAt w) : Calls Tryd.prog 10 #[.string s] w (EncPost s w) := enc_yes_at s w h hT (cell_lt (hT 0 (by decide)))

end Go.Proofs.YtcjhojedenpmbaaDoor
