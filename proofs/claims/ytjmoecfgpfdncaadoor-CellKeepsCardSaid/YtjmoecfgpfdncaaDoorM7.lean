/- Texts of one claim, merged: HamC4, HamC5, CrcC1, CrcC2, FrT, BitsP, TagC0, TagC2. -/
import Derived.Test.YtjmoecfgpfdncaaDoorM6
import Derived.Deep.RegionWith
import Derived.Deep.WholeRow
import Derived.Test.YtjmoecfgpfdncaaDoorM3
import Derived.Test.YtjmoecfgpfdncaaDoorM1
import Derived.Laws.DeepBits32
import Derived.BigQuiet
import Derived.Deep.QuietTactic
import Derived.Test.YtjmoecfgpfdncaaDoorM2
import Derived.Test.YtjmoecfgpfdncaaDoorM4
import Derived.Lib.BufferWrite
import Derived.StillTailTactics

/- Contracts of package ham: Encode, Decode. -/
namespace Go.Proofs.YtjmoecfgpfdncaaDoor
set_option maxRecDepth 100000
open Go.RowKit

/-- the table of places, as the program's text lays it -/
def HamTab (w : World) : Prop := ∀ i, i < 64 → w.cell? ⟨0, i, none⟩ = some (.int .u8 ((place i : Nat) : Int))
theorem HamTab.below {w w' : World} {B : Nat} (h : HamTab w) (hb : Below B w w') (hB : 0 < B) : HamTab w' := by
  intro i hi
  rw [hb.cell (p := ⟨0, i, none⟩) hB]; exact h i hi
theorem tab_place : ∀ i, i < 64 → ([3, 5, 6, 7, 9, 10, 11, 12, 13, 14, 15, 17, 18, 19, 20, 21, 22, 23, 24, 25, 26, 27, 28, 29, 30, 31, 33, 34, 35, 36, 37, 38, 39, 40, 41, 42, 43, 44, 45, 46, 47, 48, 49, 50, 51, 52, 53, 54, 55, 56, 57, 58, 59, 60, 61, 62, 63, 65, 66, 67, 68, 69, 70, 71] : List Int).getD i 0 = ((place i : Nat) : Int) := by decide +kernel
theorem hamTab_of {w : World} (h : ∀ i, i < 64 → w.cell? ⟨0, i, none⟩ = some (.int .u8 (([3, 5, 6, 7, 9, 10, 11, 12, 13, 14, 15, 17, 18, 19, 20, 21, 22, 23, 24, 25, 26, 27, 28, 29, 30, 31, 33, 34, 35, 36, 37, 38, 39, 40, 41, 42, 43, 44, 45, 46, 47, 48, 49, 50, 51, 52, 53, 54, 55, 56, 57, 58, 59, 60, 61, 62, 63, 65, 66, 67, 68, 69, 70, 71] : List Int).getD i 0))) : HamTab w := by
  intro i hi
  rw [h i hi, tab_place i hi]

theorem ChunkAt.below {w w' : World} {b B : Nat} {l : List UInt8} (h : ChunkAt w b l) (hb : Below B w w') (hB : b < B) : ChunkAt w' b l := by
  unfold ChunkAt at *
  rw [hb.block b hB]; exact h
theorem ChunkAt.lt {w : World} {b : Nat} {l : List UInt8} (h : ChunkAt w b l) : b < w.heap.size := (Array.getElem?_eq_some_iff.1 h).1
theorem ChunkAt.after {w w' : World} {b : Nat} {l : List UInt8} (h : ChunkAt w b l) (hb : Below w.heap.size w w') : ChunkAt w' b l := h.below hb h.lt
/-- the first bytes of a chunk, as a text -/
theorem ChunkAt.conv {w : World} {b : Nat} {l : List UInt8} (h : ChunkAt w b l) (n cap : Nat) (hn : n ≤ l.length) :
    Sem.run Tryd.prog (convert 55 9 (.slice (some ⟨b, 0, none⟩) n cap)) w = .ok (.string ⟨(l.take n).toArray⟩) w := by
  have hr := run_convert_bytes_arg (P := Tryd.prog) w 55 5 Tryd.underlying55 Tryd.underlying5 b 0 n cap ((l.take n).map fun c => (c.toNat : Int)) (by simp; omega) (by
    intro i hi
    rw [Nat.zero_add, h.cell i (by omega)]
    have h3 : i < l.length := by omega
    simp [List.getD, by_, h3, List.getElem?_take_of_lt hi]) 9 Tryd.underlying9
  rw [hr]
  congr 2
  apply strOfNums_eq
  rw [List.map_map]
  have e : ((fun n : Int => UInt8.ofNat n.toNat) ∘ fun b : UInt8 => (b.toNat : Int)) = id := by funext b; simp
  rw [e, List.map_id]

/-- copy(c[:], s) into a new chunk of zeros -/
theorem copy_chunk (s : ByteArray) (w : World) (hs : s.size ≤ 9) (ty : TypeId) :
    Sem.run Tryd.prog (Builtin.copy_ #[55, 9] ty #[.slice (some ⟨w.heap.size, 0, none⟩) 9 9, .string s]) (w.alloc (.cells #[.int .u8 0, .int .u8 0, .int .u8 0, .int .u8 0, .int .u8 0, .int .u8 0, .int .u8 0, .int .u8 0, .int .u8 0] 109))
      = .ok (goInt s.size) (w.alloc (.cells (ca (bs s ++ List.replicate (9 - s.size) 0)) 109)) := by
  obtain ⟨i0, hi, hz0, hz1, hz2⟩ := info_parts Tryd.infoU8
  have h := Lib.run_copy_row_string (P := Tryd.prog) (w.alloc (.cells (ca (List.replicate 9 0)) 109)) 55 9 ty 5 w.heap.size 0 9 9 s (ca (List.replicate 9 0)) 109 Tryd.underlying55 (by rw [hi]; simp [hz1]) (heap_alloc_new _ _) hs (by rw [ca_size]; simp; omega)
  rw [zero_ca, h, World.setRow_alloc_new]
  congr 3
  have e : (ca (List.replicate 9 0)).toList = Lib.byteCells (List.replicate 9 0) := rfl
  rw [e]
  unfold ca
  congr 1
  rw [List.take_zero, List.nil_append]
  unfold Lib.byteCells bs
  rw [List.map_append, ← List.map_drop, List.drop_replicate, Nat.zero_add]

theorem num_zeros (l : List UInt8) : ∀ n, numN (l ++ List.replicate n 0) = numN l := by
  intro n
  rw [numN_append]
  have h : numN (List.replicate n 0) = 0 := by
    induction n with
    | zero => rfl
    | succ n ih => simp only [List.replicate_succ, numN, ih]; rfl
  rw [h, Nat.mul_zero, Nat.add_zero]

/-- the state of Encode: the bytes, and the check with its last bit or without -/
def encL (s : ByteArray) (x : Nat) : List UInt8 := bs s ++ [UInt8.ofNat x]
theorem encL_length (s : ByteArray) (x : Nat) (h : s.size = 8) : (encL s x).length = 9 := by simp [encL, bs_length, h]
theorem encL_by (s : ByteArray) (x : Nat) (h : s.size = 8) (hx : x < 256) : by_ (encL s x) 8 = x := by
  have e : (encL s x).getD 8 0 = UInt8.ofNat x := by
    have h8 : (bs s).length = 8 := by rw [bs_length, h]
    simp [encL, List.getD, h8]
  unfold by_
  rw [e]
  simp; omega
theorem encL_set (s : ByteArray) (x y : Nat) (h : s.size = 8) (hy : y < 256) : (ca (encL s x)).setIfInBounds 8 (.int .u8 (y : Int)) = ca (encL s y) := by
  rw [ca_set _ _ _ hy]
  congr 1
  unfold encL
  have h8 : (bs s).length = 8 := by rw [bs_length, h]
  rw [show 8 = (bs s).length + 0 by omega, List.set_append_right _ _ (by omega)]
  simp
theorem encL_num (s : ByteArray) (x : Nat) (h : s.size = 8) (hx : x < 256) : numN (encL s x) = numN (bs s) ^^^ 2 ^ 64 * x := by
  unfold encL
  have hn : numN [UInt8.ofNat x] = x := by
    show (UInt8.ofNat x).toNat + 256 * 0 = _
    simp; omega
  rw [numN_append, bs_length, h, hn]
  exact add_xor _ _ _ (num_lt s h)
theorem encL_left (s : ByteArray) (h : s.size = 8) : left (numN (encL s 0)) 72 = left (numN (bs s)) 64 := by
  rw [encL_num s 0 h (by decide), Nat.mul_zero, Nat.xor_zero, left_64 (num_lt s h)]
theorem encL_odd (s : ByteArray) (h : s.size = 8) : oddB (encL s (left (numN (bs s)) 64)) = decide ((cnt (numN (bs s)) 64 + cnt (left (numN (bs s)) 64) 7) % 2 = 1) := by
  have hl := left_lt (numN (bs s)) 64
  unfold oddB
  rw [encL_num s _ h (by omega)]
  have h1 := check_cnt (p := left (numN (bs s)) 64) (q := 0) hl (by decide)
  rw [cnt_xor, cnt_64 (num_lt s h)]
  rw [Nat.mul_zero, Nat.add_zero] at h1
  rw [h1, Nat.add_zero]
theorem encS_eq (s : ByteArray) (x : Nat) (h : s.size = 8) (he : encN (numN (bs s)) = x) : (⟨((encL s x).take 9).toArray⟩ : ByteArray) = encS s := by
  rw [List.take_of_length_le (by rw [encL_length s x h]; omega), ← he]; rfl
theorem encL_start (s : ByteArray) (h : s.size = 8) : bs s ++ List.replicate (9 - s.size) 0 = encL s 0 := by rw [h]; rfl

set_option maxRecDepth 100000 in
theorem ham_enc_no (s : ByteArray) (w : World) (h : s.size ≠ 8) (hm : s.size ≤ maxLen) :
    Calls Tryd.prog 46 #[.string s] w fun e w' => e = .returned (.tuple #[.string ByteArray.empty, .int .i64 4]) ∧ Below w.heap.size w w' := by
  have hm2 : (s.size : Int) ≤ 9223372036854775807 := by unfold maxLen at hm; omega
  have h2 : (s.size : Int) ≠ 8 := by omega
  clear hm
  go_enter Tryd.func46, Tryd.ntmps46
  go_wp2
  go_ret2
  exact ⟨rfl, (Below.refl _ _).alloc (Nat.le_refl _) _⟩

set_option maxRecDepth 100000 in
theorem ham_enc_at (s : ByteArray) (w : World) (h : s.size = 8) (hT : HamTab w) (hg : 0 < w.heap.size) : Calls Tryd.prog 46 #[.string s] w (EncPost s w) := by
  have hcp := fun ty => copy_chunk s w (by omega) ty
  rw [encL_start s h] at hcp
  have h8 : (s.size : Int) = 8 := by omega
  have hl0 := encL_length s 0 h
  have hs0 := size_ca (encL s 0) hl0
  have HLL := Lib.hid (encL_left s h)
  have HLO := Lib.hid (encL_odd s h)
  have HLS := Lib.hid (fun x he => encS_eq s x h he)
  have HLen := Lib.hid (fun x => encL_length s x h)
  have HSet := Lib.hid (fun x y hy => encL_set s x y h hy)
  have HBy := Lib.hid (fun x hx => encL_by s x h hx)
  have HEN : Hid (encN (numN (bs s)) = left (numN (bs s)) 64 + 128 * ((cnt (numN (bs s)) 64 + cnt (left (numN (bs s)) 64) 7) % 2)) := rfl
  have hL := left_lt (numN (bs s)) 64
  obtain ⟨L, hLe⟩ : ∃ L, left (numN (bs s)) 64 = L := ⟨_, rfl⟩
  obtain ⟨C, hCe⟩ : ∃ C, cnt (numN (bs s)) 64 + cnt L 7 = C := ⟨_, rfl⟩
  rw [hLe] at HLL HLO hL HEN
  rw [hCe] at HLO HEN
  clear hLe hCe
  have HT := Lib.hid hT
  clear hT
  go_enter Tryd.func46, Tryd.ntmps46
  go_wp2_with (refine wpList_load_row rfl 109 (.tmp 4) rfl w.heap.size rfl 109 (ca (encL s 0)) (0, 0) _ (heap_alloc_new _ _) Tryd.underlying109 rfl hs0 ?_)
  refine (ham_left (encL s 0) _ hl0 (HT.out.below ((Below.refl _ _).alloc (Nat.le_refl _) _) hg) (by simp <;> omega)).mono ?_
  rintro e w1 ⟨rfl, hb1⟩
  rw [HLL.out]
  have hC1 : ChunkAt w1 w.heap.size (encL s 0) := (ChunkAt.new w (encL s 0)).after hb1
  have HB1 : Hid (Below w.heap.size w w1) := ((Below.refl _ _).alloc (Nat.le_refl _) _).trans (hb1.mono (by simp))
  have hcell := hC1.cell 8 (by rw [hl0]; omega)
  have hfree := hC1.free 8
  have HS := Lib.hid (HSet.out 0 L (by omega))
  have HC1 := Lib.hid hC1
  have hsL := size_ca (encL s L) (HLen.out L)
  clear hb1 hC1 hs0 hl0 hcp
  go_wp2_with (refine wpList_load_row rfl 109 (.tmp 4) rfl w.heap.size rfl 109 (ca (encL s L)) (0, 0) _ (HC1.out.set 8 _ _ HS.out) Tryd.underlying109 rfl hsL ?_)
  refine (ham_odd (encL s L) _ (HLen.out L)).mono ?_
  rintro e w2 ⟨rfl, hb2⟩
  rw [HLO.out]
  have hC2 : ChunkAt w2 w.heap.size (encL s L) := (HC1.out.set 8 _ _ HS.out).after hb2
  have HB2 : Hid (Below w.heap.size w w2) := (HB1.out.setCell (Nat.le_refl _) _).trans (hb2.mono (by simpa using HB1.out.size))
  clear hb2 hcell hfree hsL
  by_cases hC : C % 2 = 1
  · obtain ⟨y, hy⟩ : ∃ y, L + 128 = y := ⟨_, rfl⟩
    rw [decide_eq_true hC]
    have hcell := hC2.cell 8 (by rw [HLen.out]; omega)
    rw [HBy.out L (by omega)] at hcell
    have hfree := hC2.free 8
    have hor := or_top L hL
    rw [hy] at hor
    have hC3 := hC2.set 8 _ _ (HSet.out L y (by omega))
    have hcv := hC3.conv 9 9 (by rw [HLen.out]; omega)
    have HE : Hid ((⟨((encL s y).take 9).toArray⟩ : ByteArray) = encS s) := HLS.out y (by rw [HEN.out, ← hy, hC])
    clear hC3 hC2 hy hC
    go_wp2
    go_ret2
    exact ⟨ret_str HE.out, HB2.out.setCell (Nat.le_refl _) _⟩
  · rw [decide_eq_false hC]
    have hcv := hC2.conv 9 9 (by rw [HLen.out]; omega)
    have HE : Hid ((⟨((encL s L).take 9).toArray⟩ : ByteArray) = encS s) := HLS.out L (by rw [HEN.out]; omega)
    clear hC2 hC
    go_wp2
    go_ret2
    exact ⟨ret_str HE.out, HB2.out⟩

theorem ham_enc_yes (s : ByteArray) (w : World) (h : s.size = 8) (hT : HamTab w) : Calls Tryd.prog 46 #[.string s] w (EncPost s w) := ham_enc_at s w h hT (cell_lt (hT 0 (by decide)))

end Go.Proofs.YtjmoecfgpfdncaaDoor

/- Contracts of package ham: Decode. -/
namespace Go.Proofs.YtjmoecfgpfdncaaDoor
set_option maxRecDepth 100000
open Go.RowKit

/-- what each operation of Decode's two calls leaves -/
def RD (l : List UInt8) (p : Nat) (o : Bool) : Nat → Value → World → Prop
  | 0, v, _ => v = .agg (ca l)
  | 1, v, _ => v = .int .u8 p
  | 2, v, _ => v = .agg (ca l)
  | 3, v, _ => v = .bool o
  | 4, v, _ => v = .int .u8 p
  | _, v, _ => v = .bool o
def CD (w0 : World) (l : List UInt8) (w : World) : Prop := ChunkAt w w0.heap.size l ∧ HamTab w ∧ Below w0.heap.size w0 w
def HamT_ (_ _ : World) : Prop := True
theorem RD.mono {l : List UInt8} {p : Nat} {o : Bool} : ∀ (i : Nat) (v : Value) (w w' : World), RD l p o i v w → HamT_ w w' → RD l p o i v w' := by
  intro i v w w' h _
  unfold RD at *
  split at h <;> exact h

/-- the frame while Decode's two calls are made -/
def BaseD (s : ByteArray) (B : Nat) (a : Act) : Prop := ∃ u6 u7 u14 u15 u16 u17 : Value, a = ⟨#[.string s, undef, .string ⟨#[]⟩, .int .i64 0, .int .i64 0, .pointer (some ⟨B, 0, none⟩), u6, u7, .string s, .int .i64 9, .bool false, .slice (some ⟨B, 0, none⟩) 9 9, .string s, .int .i64 9, u14, u15, u16, u17, undef, undef, undef, undef, undef, undef, undef, undef, undef, undef, undef, undef, undef, undef, undef, undef, undef, undef, undef, undef, undef], []⟩
theorem BaseD.size {s : ByteArray} {B : Nat} {a : Act} (h : BaseD s B a) : a.tmps.size = 39 := by
  obtain ⟨u6, u7, u14, u15, u16, u17, rfl⟩ := h
  rfl
theorem BaseD.put {s : ByteArray} {B : Nat} {a : Act} {v : Value} (h : BaseD s B a) : BaseD s B (a.put (some 14) v) ∧ BaseD s B (a.put (some 15) v) ∧ BaseD s B (a.put (some 16) v) ∧ BaseD s B (a.put (some 17) v) ∧ BaseD s B (a.put (some 6) v) ∧ BaseD s B (a.put (some 7) v) := by
  obtain ⟨u6, u7, u14, u15, u16, u17, rfl⟩ := h
  exact ⟨⟨u6, u7, v, u15, u16, u17, rfl⟩, ⟨u6, u7, u14, v, u16, u17, rfl⟩, ⟨u6, u7, u14, u15, v, u17, rfl⟩, ⟨u6, u7, u14, u15, u16, v, rfl⟩, ⟨v, u7, u14, u15, u16, u17, rfl⟩, ⟨u6, v, u14, u15, u16, u17, rfl⟩⟩

theorem take9 (s : ByteArray) (h : s.size = 9) : bs s ++ List.replicate (9 - s.size) 0 = bs s := by rw [h]; simp
theorem bs9 (s : ByteArray) (h : s.size = 9) : (bs s).length = 9 := by rw [bs_length, h]

set_option maxRecDepth 100000 in
theorem ham_dec_no (s : ByteArray) (w : World) (h : s.size ≠ 9) (hm : s.size ≤ maxLen) :
    Calls Tryd.prog 54 #[.string s] w fun e w' => e = .returned (.tuple #[.string ByteArray.empty, .int .i64 0, .int .i64 4]) ∧ Below w.heap.size w w' := by
  have hm2 : (s.size : Int) ≤ 9223372036854775807 := by unfold maxLen at hm; omega
  have h2 : (s.size : Int) ≠ 9 := by omega
  clear hm
  go_enter Tryd.func54, Tryd.ntmps54
  go_wp2
  go_ret3
  exact ⟨rfl, (Below.refl _ _).alloc (Nat.le_refl _) _⟩

theorem ext8 (s : ByteArray) : (⟨((bs s).take 8).toArray⟩ : ByteArray) = s.extract 0 8 := by
  apply bs_inj
  rw [take_ext]; rfl
theorem fix8 (s : ByteArray) (h : s.size = 9) (p : Nat) : (⟨((turnL (bs s) p 64).take 8).toArray⟩ : ByteArray) = fixS s p := by
  apply bs_inj
  unfold turnL fixS
  by_cases h2 : idx p < 64
  · rw [if_pos h2, if_pos h2, take_ext]
    show (fl (bs s) (idx p / 8) (idx p % 8)).take 8 = ((flipS s (idx p / 8) (idx p % 8)).data.toList).take 8
    rw [flipS_list _ _ _ (by omega)]; rfl
  · rw [if_neg h2, if_neg h2, take_ext]; rfl
theorem ham_odd_no {s : ByteArray} (h : oddB (bs s) = false) : cnt (numN (bs s)) 72 % 2 = 0 := by
  unfold oddB at h
  have := of_decide_eq_false h
  omega
theorem ham_odd_yes {s : ByteArray} (h : oddB (bs s) = true) : ¬ cnt (numN (bs s)) 72 % 2 = 0 := by
  unfold oddB at h
  have := of_decide_eq_true h
  omega
theorem CD.call {w0 w w' : World} {l : List UInt8} (h : CD w0 l w) (hg : 0 < w0.heap.size) (hb : Below w.heap.size w w') : CD w0 l w' :=
  ⟨h.1.after hb, h.2.1.below hb (by have := h.2.2.size; omega), h.2.2.trans (hb.mono h.2.2.size)⟩

set_option maxHeartbeats 1000000 in
set_option maxRecDepth 100000 in
theorem ham_dec_at (s : ByteArray) (w : World) (h : s.size = 9) (hT : HamTab w) (hg : 0 < w.heap.size) : Calls Tryd.prog 54 #[.string s] w (DecPost s w) := by
  have hcp := fun ty => copy_chunk s w (by omega) ty
  rw [take9 s h] at hcp
  have h9 : (s.size : Int) = 9 := by omega
  obtain ⟨p, hpe⟩ : ∃ p, left (numN (bs s)) 72 = p := ⟨_, rfl⟩
  obtain ⟨o, hoe⟩ : ∃ o, oddB (bs s) = o := ⟨_, rfl⟩
  have hp7 : p < 128 := by rw [← hpe]; exact left_lt _ _
  have hLen := bs9 s h
  have HP := Lib.hid hpe
  have HO := Lib.hid hoe
  have HT := Lib.hid hT
  have HL := Lib.hid hLen
  have hs := size_ca (bs s) hLen
  clear hpe hoe hT hLen
  go_enter Tryd.func54, Tryd.ntmps54
  go_wp2
  refine wp_region_list 39 (BaseD s w.heap.size) (CD w (bs s)) HamT_ (RD (bs s) p o) rfl (by kernel_rfl) (fun a h => h.size) RD.mono ?base ?start ⟨_, _, _, _, _, _, rfl⟩ ?steps ?fin
  case base => exact ⟨fun a v h => h.put.1, fun a v h => h.put.2.1, fun a v h => h.put.2.2.1, fun a v h => h.put.2.2.2.1, fun a v h => h.put.2.2.2.2.1, fun a v h => h.put.2.2.2.2.2, trivial⟩
  case start => exact ⟨(ChunkAt.new w (bs s)).drew, fun i hi => HT.out.below ((Below.refl _ _).alloc (Nat.le_refl _) _) hg i hi, ((Below.refl _ _).alloc (Nat.le_refl _) _).drew⟩
  case steps =>
    clear hcp
    refine ⟨?_, ?_, ?_, ?_, ?_, ?_, trivial⟩
    all_goals
      refine ⟨rfl, ?_⟩
      intro a w' hC hB hR
      obtain ⟨u6, u7, u14, u15, u16, u17, rfl⟩ := hB
      have HC := Lib.hid hC
      clear hC
    · exact wp_load_row 109 (.tmp 5) rfl w.heap.size rfl 109 (ca (bs s)) (0, 0) _ HC.out.1 Tryd.underlying109 rfl hs ⟨_, rfl, HC.out, trivial, rfl⟩
    · have h0 := hR ⟨0, .data⟩ (by simp) rfl
      clear hR
      simp [RD, slotOf] at h0
      subst h0
      unfold Oper.wp
      go_simp
      refine (ham_left (bs s) _ HL.out HC.out.2.1 (by have := HC.out.2.2.size; omega)).mono ?_
      rintro e w1 ⟨rfl, hb1⟩
      exact ⟨HC.out.call hg hb1, trivial, congrArg (fun n : Nat => Value.int .u8 (n : Int)) HP.out⟩
    · exact wp_load_row 109 (.tmp 5) rfl w.heap.size rfl 109 (ca (bs s)) (0, 0) _ HC.out.1 Tryd.underlying109 rfl hs ⟨_, rfl, HC.out, trivial, rfl⟩
    · have h0 := hR ⟨2, .data⟩ (by simp) rfl
      clear hR
      simp [RD, slotOf] at h0
      subst h0
      unfold Oper.wp
      go_simp
      refine (ham_odd (bs s) _ HL.out).mono ?_
      rintro e w1 ⟨rfl, hb1⟩
      exact ⟨HC.out.call hg hb1, trivial, congrArg Value.bool HO.out⟩
    · have h0 := hR ⟨1, .data⟩ (by simp) rfl
      clear hR
      simp [RD, slotOf] at h0
      subst h0
      unfold Oper.wp
      go_simp
      exact ⟨HC.out, trivial, rfl⟩
    · have h0 := hR ⟨3, .data⟩ (by simp) rfl
      clear hR
      simp [RD, slotOf] at h0
      subst h0
      unfold Oper.wp
      go_simp
      exact ⟨HC.out, trivial, rfl⟩
  case fin =>
    intro a w' hC hB hR
    have s4 := hR 4 (by decide)
    have s5 := hR 5 (by decide)
    obtain ⟨u6, u7, u14, u15, u16, u17, rfl⟩ := hB
    simp [RD, slotOf] at s4 s5
    subst s4 s5
    obtain ⟨hK, hT2, hbl⟩ := hC
    have HT2 := Lib.hid hT2
    have HB := Lib.hid hbl
    clear hR hcp hT2 hbl
    cases o with
    | false =>
      have h1 := ham_odd_no HO.out
      by_cases hp0 : p = 0
      · have HE := Lib.hid (dec_good h1 (HP.out.trans hp0))
        have hcv := hK.conv 8 9 (by rw [HL.out]; omega)
        have H8 := Lib.hid (ext8 s)
        subst hp0
        clear h1 hK
        go_wp2
        go_ret3
        exact ⟨ret_dec (by rw [HE.out]; exact H8.out) (by rw [HE.out]; rfl), HB.out⟩
      · have HE := Lib.hid (dec_bad h1 (fun h => hp0 (HP.out.symm.trans h)))
        have hp0b : ((p : Int) == 0) = false := by simp; omega
        clear h1 hK hp0
        go_wp2
        go_ret3
        exact ⟨ret_dec (by rw [HE.out]; rfl) (by rw [HE.out]; rfl), HB.out⟩
    | true =>
      have h1 := ham_odd_yes HO.out
      by_cases hp71 : 71 < p
      · have HE := Lib.hid (dec_far h1 (by rw [HP.out]; exact hp71))
        have hp71b : decide ((71 : Int) < (p : Int)) = true := by simp; omega
        clear h1 hK hp71
        go_wp2
        go_ret3
        exact ⟨ret_dec (by rw [HE.out]; rfl) (by rw [HE.out]; rfl), HB.out⟩
      · have HE := Lib.hid (dec_fix h1 (by rw [HP.out]; exact hp71))
        have hp71b : decide ((71 : Int) < (p : Int)) = false := by simp; omega
        have H8 := Lib.hid (fix8 s h p)
        obtain ⟨m, hm⟩ : ∃ m, turnL (bs s) p 64 = m := ⟨_, rfl⟩
        have hml : m.length = 9 := by rw [← hm, turnL_length]; exact HL.out
        have HM := Lib.hid hm
        have HML := Lib.hid hml
        rw [hm] at H8
        have hsm := size_ca m hml
        have HK := Lib.hid hK
        have HSZ : Hid ((ca (bs s)).size = (ca m).size) := by rw [ca_size, ca_size, HL.out, hml]; exact rfl
        clear h1 hK hm hml
        go_wp2_with (refine wpList_load_row rfl 109 (.tmp 5) rfl w.heap.size rfl 109 (ca (bs s)) (0, 0) _ HK.out Tryd.underlying109 rfl hs ?_)
        refine (ham_turned (bs s) p _ HL.out (by omega) HT2.out (by have := HB.out.size; omega)).mono ?_
        rintro e w2 ⟨rfl, hb2⟩
        rw [HM.out]
        have HK2 := Lib.hid (HK.out.after hb2)
        have HB2 := Lib.hid (HB.out.trans (hb2.mono HB.out.size))
        have hcv := (HK2.out.put (m := m)).conv 8 9 (by rw [HML.out]; omega)
        clear hb2 hs
        go_wp2_with (refine wpList_store_row rfl 109 (.tmp 5) (.tmp 36) rfl w.heap.size (ca m) rfl rfl 109 (ca (bs s)) HK2.out hsm HSZ.out (ca_one m) ?_)
        go_ret3
        exact ⟨ret_dec (by rw [HE.out, HP.out]; exact H8.out) (by rw [HE.out]; rfl), below_setRow (Nat.le_refl _) _ HB2.out⟩

theorem ham_dec_yes (s : ByteArray) (w : World) (h : s.size = 9) (hT : HamTab w) : Calls Tryd.prog 54 #[.string s] w (DecPost s w) := ham_dec_at s w h hT (cell_lt (hT 0 (by decide)))

end Go.Proofs.YtjmoecfgpfdncaaDoor

/- Contracts of package crc: More, Sum, Seal, Whole. The table of half bytes lies in a package variable: its cells are a premise. -/
namespace Go.Proofs.YtjmoecfgpfdncaaDoor
open Go.RowKit

/-- the table of half bytes, as the program's text lays it -/
def CrcTab (w : World) : Prop := ∀ i, i < 16 → w.cell? ⟨2, i, none⟩ = some (.int .u32 ((half i : Nat) : Int))
theorem CrcTab.below {w w' : World} {B : Nat} (h : CrcTab w) (hb : Below B w w') (hB : 2 < B) : CrcTab w' := by
  intro i hi
  rw [hb.cell (p := ⟨2, i, none⟩) hB]; exact h i hi

theorem tab_half : ∀ i, i < 16 → ([0, 498536548, 997073096, 651767980, 1994146192, 1802195444, 1303535960, 1342533948, 3988292384, 4027552580, 3604390888, 3412177804, 2607071920, 2262029012, 2685067896, 3183342108] : List Int).getD i 0 = ((half i : Nat) : Int) := by decide +kernel
theorem crcTab_of {w : World} (h : ∀ i, i < 16 → w.cell? ⟨2, i, none⟩ = some (.int .u32 (([0, 498536548, 997073096, 651767980, 1994146192, 1802195444, 1303535960, 1342533948, 3988292384, 4027552580, 3604390888, 3412177804, 2607071920, 2262029012, 2685067896, 3183342108] : List Int).getD i 0))) : CrcTab w := by
  intro i hi
  rw [h i hi, tab_half i hi]

/-- the state behind so many bytes -/
def moreTo (st : Nat) (s : ByteArray) (k : Nat) : Nat := more st ((bs s).take k)
theorem moreTo_zero (st : Nat) (s : ByteArray) : moreTo st s 0 = st := by unfold moreTo; rw [List.take_zero, more_nil]
theorem moreTo_all (st : Nat) (s : ByteArray) : moreTo st s s.size = more st (bs s) := by
  unfold moreTo; rw [List.take_of_length_le (by rw [bs_length]; omega)]
theorem moreTo_lt (st : Nat) (s : ByteArray) (k : Nat) (h : st < 2 ^ 32) : moreTo st s k < 2 ^ 32 := more_lt _ _ h
theorem moreTo_succ (st : Nat) (s : ByteArray) (k : Nat) (h : k < s.size) : moreTo st s (k + 1) = sN 4 (sN 4 (moreTo st s k ^^^ s[k].toNat)) := by
  unfold moreTo
  rw [List.take_succ_eq_append_getElem (by rw [bs_length]; exact h), more_snoc, ← sN_add]
  rfl
theorem wraps_u32 (n : Int) (h0 : 0 ≤ n) (h1 : n < 2 ^ 32) : IntKind.u32.wrap n = n := by rw [IntKind.wrap_u32]; omega
theorem xor_u32 (a b : Nat) (ha : a < 4294967296) (hb : b < 4294967296) : bits .xor .u32 (a : Int) (b : Int) = ((a ^^^ b : Nat) : Int) := by
  have hx : a ^^^ b < 2 ^ 32 := Nat.xor_lt_two_pow (by omega) (by omega)
  have h1 : (BitVec.ofInt 32 (a : Int)).toNat = a := by
    rw [BitVec.ofInt_natCast, BitVec.toNat_ofNat]; exact Nat.mod_eq_of_lt (by omega)
  have h2 : (BitVec.ofInt 32 (b : Int)).toNat = b := by
    rw [BitVec.ofInt_natCast, BitVec.toNat_ofNat]; exact Nat.mod_eq_of_lt (by omega)
  show IntKind.u32.wrap ((BitVec.ofInt 32 (a : Int) ^^^ BitVec.ofInt 32 (b : Int)).toNat : Int) = _
  rw [BitVec.toNat_xor, h1, h2, IntKind.wrap_u32]
  omega
theorem and_u32_15 (y : Nat) (hy : y < 4294967296) : bits .and .u32 (y : Int) 15 = ((y % 16 : Nat) : Int) := by
  have h := (bits_nat .u32 32 (by decide) wraps_u32 y 15 (by omega) (by decide)).1
  rw [show (15 : Int) = ((15 : Nat) : Int) from rfl, h, show 15 = 2 ^ 4 - 1 from rfl, Nat.and_two_pow_sub_one_eq_mod]
/-- a half byte's step, as the code takes it -/
theorem half_step (y q : Nat) (hy : y < 4294967296) (hq : y % 16 = q) : bits .xor .u32 ((y : Int) / 16) ((half q : Nat) : Int) = ((sN 4 y : Nat) : Int) := by
  subst hq
  have h := xor_u32 (y / 16) (half (y % 16)) (by omega) (sN_lt 4 _ (by omega))
  rw [sN_half, ← h]; rfl

theorem mod_u32 (y : Nat) : (y : Int) % 16 = ((y % 16 : Nat) : Int) := by omega
/-- one half byte's step -/
theorem half_any (y : Nat) (w : World) (hy : y < 4294967296) (hT : CrcTab w) :
    Calls Tryd.prog 90 #[.int .u32 y] w fun e w' => e = .returned (.int .u32 (sN 4 y : Nat)) ∧ w = w' := by
  obtain ⟨q, hq⟩ : ∃ q, y % 16 = q := ⟨_, rfl⟩
  have hq16 : q < 16 := by omega
  have e3 := half_step y q hy hq
  have hcell := hT q hq16
  obtain ⟨u, hu⟩ : ∃ u, half q = u := ⟨_, rfl⟩
  rw [hu] at e3 hcell
  have hq2 : (y : Int) % 16 = (q : Int) := by omega
  have HE := Lib.hid e3
  clear hu hq hT e3
  go_enter Tryd.func90, Tryd.ntmps90
  go_wp2
  go_ret
  exact ⟨ret_int HE.out, rfl⟩

set_option maxRecDepth 100000 in
theorem more_any (st : Nat) (s : ByteArray) (w : World) (hs : st < 4294967296) (hm : s.size ≤ 100000) (hT : CrcTab w) :
    Calls Tryd.prog 89 #[.int .u32 st, .string s] w fun e w' => e = .returned (.int .u32 (more st (bs s) : Nat)) ∧ w = w' := by
  have HT := Lib.hid hT
  have HA := Lib.hid (moreTo_all st s)
  have HL := Lib.hid (fun k => moreTo_lt st s k hs)
  clear hT
  go_enter Tryd.func89, Tryd.ntmps89
  go_wp2
  go_loop [0, 8] (fun x i => ∃ k : Nat, k ≤ s.size ∧ i = .int .i64 k ∧ x = .int .u32 (moreTo st s k : Nat)) (fun _ i => s.size - (intOf i).toNat)
  case atStart => exact ⟨0, Nat.zero_le _, rfl, by rw [moreTo_zero]⟩
  case round =>
    obtain ⟨k, hk, rfl, rfl⟩ := hrel
    by_cases hlt : k < s.size
    · have HS := Lib.hid (moreTo_succ st s k hlt)
      obtain ⟨x, hx⟩ : ∃ x, moreTo st s k = x := ⟨_, rfl⟩
      have hx32 : x < 4294967296 := by rw [← hx]; exact HL.out k
      rw [hx] at HS ⊢
      clear hx
      obtain ⟨c, hc⟩ : ∃ c : Nat, s[k].toNat = c := ⟨_, rfl⟩
      have hc2 : c ≤ 255 := by have : s[k].toNat < 256 := s[k].toNat_lt; omega
      rw [hc] at HS
      obtain ⟨y, hy⟩ : ∃ y, x ^^^ c = y := ⟨_, rfl⟩
      have hy32 : y < 4294967296 := by rw [← hy]; exact Nat.xor_lt_two_pow (n := 32) hx32 (by omega)
      have e1 := xor_u32 x c hx32 (by omega)
      rw [hy] at e1 HS
      clear hy hx32
      go_wp2_with fail
      refine (half_any y _ hy32 HT.out).mono ?_
      rintro e w' ⟨rfl, rfl⟩
      obtain ⟨z, hz⟩ : ∃ z, sN 4 y = z := ⟨_, rfl⟩
      have hz32 : z < 4294967296 := by rw [← hz]; exact sN_lt 4 y hy32
      rw [hz] at HS ⊢
      clear hz
      go_wp2_with fail
      refine (half_any z _ hz32 HT.out).mono ?_
      rintro e w' ⟨rfl, rfl⟩
      rw [← HS.out]
      go_wp2_with fail
      go_round
      case rel => exact ⟨k + 1, by omega, by go_num, rfl⟩
      case measure => simp [intOf]; omega
    · obtain rfl : k = s.size := by omega
      go_wp2
      go_ret
      exact ⟨ret_int (by rw [HA.out]), rfl⟩

theorem sum_xor (l : List UInt8) : bits .xor .u32 IntKind.u32.max ((more ones32 l : Nat) : Int) = ((sumN l : Nat) : Int) := by
  have h := more_lt ones32 l (by decide)
  rw [show IntKind.u32.max = ((ones32 : Nat) : Int) from rfl, xor_u32 _ _ (by decide) h, Nat.xor_comm]; rfl
theorem sum_xor_right (l : List UInt8) : bits .xor .u32 ((more ones32 l : Nat) : Int) 4294967295 = ((sumN l : Nat) : Int) := by
  rw [show (4294967295 : Int) = ((ones32 : Nat) : Int) from rfl, xor_u32 _ _ (more_lt ones32 l (by decide)) (by decide)]; rfl
theorem sum_any (s : ByteArray) (w : World) (hm : s.size ≤ 100000) (hT : CrcTab w) :
    Calls Tryd.prog 84 #[.string s] w fun e w' => e = .returned (.int .u32 (sumN (bs s) : Nat)) ∧ w = w' := by
  have HT := Lib.hid hT
  have HS := Lib.hid (sum_xor_right (bs s))
  clear hT
  go_enter Tryd.func84, Tryd.ntmps84
  go_wp2_with fail
  refine (more_any 4294967295 s _ (by decide) hm HT.out).mono ?_
  rintro e w' ⟨rfl, rfl⟩
  rw [show more 4294967295 (bs s) = more ones32 (bs s) from rfl]
  go_wp2_with fail
  go_ret
  exact ⟨ret_int (by rw [← HS.out]), rfl⟩

theorem conv4 (c0 c1 c2 c3 : Int) (W : World) :
    Sem.run Tryd.prog (convert 55 9 (.slice (some ⟨W.heap.size, 0, none⟩) 4 4)) (W.alloc (.cells #[.int .u8 c0, .int .u8 c1, .int .u8 c2, .int .u8 c3] 132))
      = .ok (.string (strOfNums [c0, c1, c2, c3])) (W.alloc (.cells #[.int .u8 c0, .int .u8 c1, .int .u8 c2, .int .u8 c3] 132)) := by
  refine run_convert_bytes_arg (P := Tryd.prog) _ 55 5 Tryd.underlying55 Tryd.underlying5 W.heap.size 0 4 4 [c0, c1, c2, c3] rfl ?_ 9 Tryd.underlying9
  intro i hi
  rw [Nat.zero_add, World.cell?_alloc_new]
  rcases i with _ | _ | _ | _ | i
  all_goals first | omega | rfl

theorem four_str (N : Nat) (h : N < 2 ^ 32) : strOfNums [(N : Int) % 256, (N : Int) / 256 % 256, (N : Int) / 65536 % 256, (N : Int) / 16777216] = ⟨(tail4 N).toArray⟩ := by
  apply strOfNums_eq
  have e0 : ((N : Int) % 256).toNat = N % 256 := by omega
  have e1 : ((N : Int) / 256 % 256).toNat = N / 256 % 256 := by omega
  have e2 : ((N : Int) / 65536 % 256).toNat = N / 65536 % 256 := by omega
  have e3 : ((N : Int) / 16777216).toNat = N / 16777216 % 256 := by omega
  simp only [List.map, e0, e1, e2, e3, tail4]

set_option maxRecDepth 100000 in
theorem tail_any (s : ByteArray) (w : World) (hm : s.size ≤ 100000) (hT : CrcTab w) :
    Calls Tryd.prog 66 #[.string s] w fun e w' => e = .returned (.string ⟨(tail4 (sumN (bs s))).toArray⟩) ∧ Below w.heap.size w w' := by
  have HT := Lib.hid hT
  have hL := sumN_lt (bs s)
  clear hT
  have hc := fun (c0 c1 c2 c3 : Int) => conv4 c0 c1 c2 c3 w
  go_enter Tryd.func66, Tryd.ntmps66
  go_wp2_with fail
  refine (sum_any s _ hm HT.out).mono ?_
  rintro e w' ⟨rfl, rfl⟩
  obtain ⟨N, hN⟩ : ∃ N, sumN (bs s) = N := ⟨_, rfl⟩
  rw [hN] at hL ⊢
  have estr := four_str N hL
  have HN := Lib.hid hN
  clear hN
  go_wp2_with fail
  go_rounds 5
  go_ret
  exact ⟨by rw [HN.out]; rfl, (Below.refl _ _).alloc (Nat.le_refl _) _⟩

set_option maxRecDepth 100000 in
theorem seal_any (s : ByteArray) (w : World) (hm : s.size ≤ 100000) (hT : CrcTab w) :
    Calls Tryd.prog 45 #[.string s] w fun e w' => e = .returned (.string (sealS s)) ∧ Below w.heap.size w w' := by
  have HT := Lib.hid hT
  clear hT
  go_enter Tryd.func45, Tryd.ntmps45
  go_wp2_with fail
  obtain ⟨t, ht, htz⟩ := tail_str (sumN (bs s))
  refine (tail_any s _ hm HT.out).mono ?_
  rintro e w1 ⟨rfl, hb1⟩
  have HS : Hid (s ++ t = sealS s) := by rw [← ht]; exact seal_cat s
  have HB1 := Lib.hid hb1
  rw [ht]
  clear hb1 ht
  go_wp2_with fail
  go_ret
  exact ⟨by rw [← HS.out]; rfl, HB1.out⟩

end Go.Proofs.YtjmoecfgpfdncaaDoor

/- The contract of crc's Whole. -/
namespace Go.Proofs.YtjmoecfgpfdncaaDoor
open Go.RowKit

theorem CrcTab.drew {w : World} (h : CrcTab w) : CrcTab w.drew := h

theorem below_drewN (w : World) (n : Nat) : Below w.heap.size w (w.drewN n) := ⟨rfl, rfl, rfl, Nat.le_refl _, fun _ _ => rfl⟩

/-- a text ends with its own sum's bytes just if it is the sealed text of what is ahead of them -/
theorem whole_tail (s : ByteArray) (h : 4 ≤ s.size) : wholeB s = ((s.extract (s.size - 4) s.size).toList == tail4 (sumN (bs (s.extract 0 (s.size - 4))))) := by
  rw [show tail4 (sumN (bs (s.extract 0 (s.size - 4)))) = (⟨(tail4 (sumN (bs (s.extract 0 (s.size - 4))))).toArray⟩ : ByteArray).toList from by rw [ByteArray.toList_eq]]
  rw [whole_long s h]
  have e : s.toList = (s.extract 0 (s.size - 4)).toList ++ (s.extract (s.size - 4) s.size).toList := by
    rw [ByteArray.toList_eq, ByteArray.toList_eq, ByteArray.toList_eq, ByteArray.data_extract, ByteArray.data_extract]
    have h2 : s.data.size = s.size := rfl
    simp only [Array.toList_extract, List.extract_eq_take_drop, List.drop_zero, Nat.sub_zero]
    rw [show s.size - (s.size - 4) = 4 by omega]
    have h4 : (List.drop (s.size - 4) s.data.toList).take 4 = List.drop (s.size - 4) s.data.toList := List.take_of_length_le (by rw [List.length_drop, Array.length_toList]; omega)
    rw [h4, List.take_append_drop]
  have e2 : (sealS (s.extract 0 (s.size - 4))).toList = (s.extract 0 (s.size - 4)).toList ++ (⟨(tail4 (sumN (bs (s.extract 0 (s.size - 4))))).toArray⟩ : ByteArray).toList := by
    rw [ByteArray.toList_eq, ByteArray.toList_eq, ByteArray.toList_eq]
    rfl
  rw [e, e2]
  generalize (s.extract 0 (s.size - 4)).toList = x
  generalize (s.extract (s.size - 4) s.size).toList = y
  generalize (⟨(tail4 (sumN (bs (s.extract 0 (s.size - 4))))).toArray⟩ : ByteArray).toList = z
  rw [Bool.eq_iff_iff, beq_iff_eq, beq_iff_eq, List.append_cancel_left_eq]
  exact eq_comm

set_option maxHeartbeats 2000000 in
set_option maxRecDepth 100000 in
theorem whole_any (s : ByteArray) (w : World) (hm : s.size ≤ 100000) (hT : CrcTab w) :
    Calls Tryd.prog 55 #[.string s] w fun e w' => e = .returned (.bool (wholeB s)) ∧ Below w.heap.size w w' := by
  have HT := Lib.hid hT
  clear hT
  by_cases h : 4 ≤ s.size
  · have HW := Lib.hid (whole_tail s h)
    have hx : (s.extract 0 (s.size - 4)).size ≤ 100000 := by rw [ByteArray.size_extract]; omega
    go_enter Tryd.func55, Tryd.ntmps55
    have hd : (4 : Int) ≤ (s.size : Int) := by omega
    have htn : ((s.size : Int) - 4).toNat = s.size - 4 := by omega
    go_wp2_with fail
    go_region_with (go_at_call 66; refine (tail_any _ w.drew hx (CrcTab.drew HT.out)).mono ?_; rintro e w1 ⟨rfl, hb1⟩)
    all_goals go_wp2_with fail
    all_goals go_ret
    all_goals exact ⟨ret_bool HW.out.symm, (Below.refl _ _).drew.trans hb1⟩
  · have HW := Lib.hid (whole_short s h)
    go_enter Tryd.func55, Tryd.ntmps55
    have hd : decide ((4 : Int) ≤ (s.size : Int)) = false := by simp; omega
    go_wp2
    go_quiet (fail)
    go_wp2
    go_ret
    exact ⟨ret_bool HW.out.symm, below_drewN _ _⟩

end Go.Proofs.YtjmoecfgpfdncaaDoor

/- Both package tables of layer 5's laws. -/
namespace Go.Proofs.YtjmoecfgpfdncaaDoor
set_option maxRecDepth 100000
open Go.RowKit

/-- both tables -/
def Tabs (w : World) : Prop := HamTab w ∧ CrcTab w
theorem Tabs.after {w w' : World} (h : Tabs w) (hb : Below w.heap.size w w') : Tabs w' :=
  ⟨h.1.below hb (cell_lt (h.1 0 (by decide))), h.2.below hb (cell_lt (h.2 0 (by decide)))⟩

end Go.Proofs.YtjmoecfgpfdncaaDoor

/- Contracts of package bits, as far as later layers lean on them: Put of a number that fits, Get. -/
namespace Go.Proofs.YtjmoecfgpfdncaaDoor
open Go.RowKit

theorem conv8 (c0 c1 c2 c3 c4 c5 c6 c7 : Int) (W : World) (n : Nat) (hn : n ≤ 8) :
    Sem.run Tryd.prog (convert 55 9 (.slice (some ⟨W.heap.size, 0, none⟩) n 8)) (W.alloc (.cells #[.int .u8 c0, .int .u8 c1, .int .u8 c2, .int .u8 c3, .int .u8 c4, .int .u8 c5, .int .u8 c6, .int .u8 c7] 137))
      = .ok (.string (strOfNums ([c0, c1, c2, c3, c4, c5, c6, c7].take n))) (W.alloc (.cells #[.int .u8 c0, .int .u8 c1, .int .u8 c2, .int .u8 c3, .int .u8 c4, .int .u8 c5, .int .u8 c6, .int .u8 c7] 137)) := by
  refine run_convert_bytes_arg (P := Tryd.prog) _ 55 5 Tryd.underlying55 Tryd.underlying5 W.heap.size 0 n 8 ([c0, c1, c2, c3, c4, c5, c6, c7].take n) (by simp; omega) ?_ 9 Tryd.underlying9
  intro i hi
  rw [Nat.zero_add, World.cell?_alloc_new]
  have h8 : i < 8 := by omega
  rcases i with _ | _ | _ | _ | _ | _ | _ | _ | i
  all_goals first | omega | simp [List.getD, hi]

theorem str_1 (v : Int) (v0 : 0 ≤ v) (v1 : v < 256) : strOfNums [v] = leS v 1 := by
  have l : v % 256 = v := by omega
  unfold strOfNums leS
  simp only [le, List.map, l]

theorem str_2 (v : Int) (v0 : 0 ≤ v) (v1 : v < 65536) : strOfNums [v % 256, v / 256] = leS v 2 := by
  have l : v / 256 % 256 = v / 256 := by omega
  unfold strOfNums leS
  simp only [le, List.map, l]

theorem str_3 (v : Int) (v0 : 0 ≤ v) (v1 : v < 16777216) : strOfNums [v % 256, v / 256 % 256, v / 65536] = leS v 3 := by
  have e2 : v / 256 / 256 = v / 65536 := by omega
  have l : v / 65536 % 256 = v / 65536 := by omega
  unfold strOfNums leS
  simp only [le, List.map, e2, l]

theorem str_4 (v : Int) (v0 : 0 ≤ v) (v1 : v < 4294967296) : strOfNums [v % 256, v / 256 % 256, v / 65536 % 256, v / 16777216] = leS v 4 := by
  have e2 : v / 256 / 256 = v / 65536 := by omega
  have e3 : v / 65536 / 256 = v / 16777216 := by omega
  have l : v / 16777216 % 256 = v / 16777216 := by omega
  unfold strOfNums leS
  simp only [le, List.map, e2, e3, l]

theorem str_5 (v : Int) (v0 : 0 ≤ v) (v1 : v < 1099511627776) : strOfNums [v % 256, v / 256 % 256, v / 65536 % 256, v / 16777216 % 256, v / 4294967296] = leS v 5 := by
  have e2 : v / 256 / 256 = v / 65536 := by omega
  have e3 : v / 65536 / 256 = v / 16777216 := by omega
  have e4 : v / 16777216 / 256 = v / 4294967296 := by omega
  have l : v / 4294967296 % 256 = v / 4294967296 := by omega
  unfold strOfNums leS
  simp only [le, List.map, e2, e3, e4, l]

theorem str_6 (v : Int) (v0 : 0 ≤ v) (v1 : v < 281474976710656) : strOfNums [v % 256, v / 256 % 256, v / 65536 % 256, v / 16777216 % 256, v / 4294967296 % 256, v / 1099511627776] = leS v 6 := by
  have e2 : v / 256 / 256 = v / 65536 := by omega
  have e3 : v / 65536 / 256 = v / 16777216 := by omega
  have e4 : v / 16777216 / 256 = v / 4294967296 := by omega
  have e5 : v / 4294967296 / 256 = v / 1099511627776 := by omega
  have l : v / 1099511627776 % 256 = v / 1099511627776 := by omega
  unfold strOfNums leS
  simp only [le, List.map, e2, e3, e4, e5, l]

theorem str_7 (v : Int) (v0 : 0 ≤ v) (v1 : v < 72057594037927936) : strOfNums [v % 256, v / 256 % 256, v / 65536 % 256, v / 16777216 % 256, v / 4294967296 % 256, v / 1099511627776 % 256, v / 281474976710656] = leS v 7 := by
  have e2 : v / 256 / 256 = v / 65536 := by omega
  have e3 : v / 65536 / 256 = v / 16777216 := by omega
  have e4 : v / 16777216 / 256 = v / 4294967296 := by omega
  have e5 : v / 4294967296 / 256 = v / 1099511627776 := by omega
  have e6 : v / 1099511627776 / 256 = v / 281474976710656 := by omega
  have l : v / 281474976710656 % 256 = v / 281474976710656 := by omega
  unfold strOfNums leS
  simp only [le, List.map, e2, e3, e4, e5, e6, l]

theorem str_8 (v : Int) (v0 : 0 ≤ v) (v1 : v < 18446744073709551616) : strOfNums [v % 256, v / 256 % 256, v / 65536 % 256, v / 16777216 % 256, v / 4294967296 % 256, v / 1099511627776 % 256, v / 281474976710656 % 256, v / 72057594037927936] = leS v 8 := by
  have e2 : v / 256 / 256 = v / 65536 := by omega
  have e3 : v / 65536 / 256 = v / 16777216 := by omega
  have e4 : v / 16777216 / 256 = v / 4294967296 := by omega
  have e5 : v / 4294967296 / 256 = v / 1099511627776 := by omega
  have e6 : v / 1099511627776 / 256 = v / 281474976710656 := by omega
  have e7 : v / 281474976710656 / 256 = v / 72057594037927936 := by omega
  have l : v / 72057594037927936 % 256 = v / 72057594037927936 := by omega
  unfold strOfNums leS
  simp only [le, List.map, e2, e3, e4, e5, e6, e7, l]

set_option maxRecDepth 100000 in
theorem put_1 (v : Int) (w : World) (v0 : 0 ≤ v) (v1 : v < 256) :
    Calls Tryd.prog 81 #[.int .u64 v, .int .i64 1] w fun e w' => e = .returned (.tuple #[.string (leS v 1), .int .i64 0]) ∧ Below w.heap.size w w' := by
  have hc := fun (c0 c1 c2 c3 c4 c5 c6 c7 : Int) => conv8 c0 c1 c2 c3 c4 c5 c6 c7 w 1 (by decide)
  go_enter Tryd.func81, Tryd.ntmps81
  go_wp2
  go_rounds 2
  go_ret2
  exact ⟨ret_str (str_1 v v0 v1), (Below.refl _ _).alloc (Nat.le_refl _) _⟩

set_option maxRecDepth 100000 in
theorem put_2 (v : Int) (w : World) (v0 : 0 ≤ v) (v1 : v < 65536) :
    Calls Tryd.prog 81 #[.int .u64 v, .int .i64 2] w fun e w' => e = .returned (.tuple #[.string (leS v 2), .int .i64 0]) ∧ Below w.heap.size w w' := by
  have hc := fun (c0 c1 c2 c3 c4 c5 c6 c7 : Int) => conv8 c0 c1 c2 c3 c4 c5 c6 c7 w 2 (by decide)
  go_enter Tryd.func81, Tryd.ntmps81
  go_wp2
  go_rounds 3
  go_ret2
  exact ⟨ret_str (str_2 v v0 v1), (Below.refl _ _).alloc (Nat.le_refl _) _⟩

set_option maxRecDepth 100000 in
theorem put_3 (v : Int) (w : World) (v0 : 0 ≤ v) (v1 : v < 16777216) :
    Calls Tryd.prog 81 #[.int .u64 v, .int .i64 3] w fun e w' => e = .returned (.tuple #[.string (leS v 3), .int .i64 0]) ∧ Below w.heap.size w w' := by
  have hc := fun (c0 c1 c2 c3 c4 c5 c6 c7 : Int) => conv8 c0 c1 c2 c3 c4 c5 c6 c7 w 3 (by decide)
  go_enter Tryd.func81, Tryd.ntmps81
  go_wp2
  go_rounds 4
  go_ret2
  exact ⟨ret_str (str_3 v v0 v1), (Below.refl _ _).alloc (Nat.le_refl _) _⟩

set_option maxRecDepth 100000 in
theorem put_4 (v : Int) (w : World) (v0 : 0 ≤ v) (v1 : v < 4294967296) :
    Calls Tryd.prog 81 #[.int .u64 v, .int .i64 4] w fun e w' => e = .returned (.tuple #[.string (leS v 4), .int .i64 0]) ∧ Below w.heap.size w w' := by
  have hc := fun (c0 c1 c2 c3 c4 c5 c6 c7 : Int) => conv8 c0 c1 c2 c3 c4 c5 c6 c7 w 4 (by decide)
  go_enter Tryd.func81, Tryd.ntmps81
  go_wp2
  go_rounds 5
  go_ret2
  exact ⟨ret_str (str_4 v v0 v1), (Below.refl _ _).alloc (Nat.le_refl _) _⟩

set_option maxRecDepth 100000 in
theorem put_5 (v : Int) (w : World) (v0 : 0 ≤ v) (v1 : v < 1099511627776) :
    Calls Tryd.prog 81 #[.int .u64 v, .int .i64 5] w fun e w' => e = .returned (.tuple #[.string (leS v 5), .int .i64 0]) ∧ Below w.heap.size w w' := by
  have hc := fun (c0 c1 c2 c3 c4 c5 c6 c7 : Int) => conv8 c0 c1 c2 c3 c4 c5 c6 c7 w 5 (by decide)
  go_enter Tryd.func81, Tryd.ntmps81
  go_wp2
  go_rounds 6
  go_ret2
  exact ⟨ret_str (str_5 v v0 v1), (Below.refl _ _).alloc (Nat.le_refl _) _⟩

set_option maxRecDepth 100000 in
theorem put_6 (v : Int) (w : World) (v0 : 0 ≤ v) (v1 : v < 281474976710656) :
    Calls Tryd.prog 81 #[.int .u64 v, .int .i64 6] w fun e w' => e = .returned (.tuple #[.string (leS v 6), .int .i64 0]) ∧ Below w.heap.size w w' := by
  have hc := fun (c0 c1 c2 c3 c4 c5 c6 c7 : Int) => conv8 c0 c1 c2 c3 c4 c5 c6 c7 w 6 (by decide)
  go_enter Tryd.func81, Tryd.ntmps81
  go_wp2
  go_rounds 7
  go_ret2
  exact ⟨ret_str (str_6 v v0 v1), (Below.refl _ _).alloc (Nat.le_refl _) _⟩

set_option maxRecDepth 100000 in
theorem put_7 (v : Int) (w : World) (v0 : 0 ≤ v) (v1 : v < 72057594037927936) :
    Calls Tryd.prog 81 #[.int .u64 v, .int .i64 7] w fun e w' => e = .returned (.tuple #[.string (leS v 7), .int .i64 0]) ∧ Below w.heap.size w w' := by
  have hc := fun (c0 c1 c2 c3 c4 c5 c6 c7 : Int) => conv8 c0 c1 c2 c3 c4 c5 c6 c7 w 7 (by decide)
  go_enter Tryd.func81, Tryd.ntmps81
  go_wp2
  go_rounds 8
  go_ret2
  exact ⟨ret_str (str_7 v v0 v1), (Below.refl _ _).alloc (Nat.le_refl _) _⟩

set_option maxRecDepth 100000 in
theorem put_8 (v : Int) (w : World) (v0 : 0 ≤ v) (v1 : v < 18446744073709551616) :
    Calls Tryd.prog 81 #[.int .u64 v, .int .i64 8] w fun e w' => e = .returned (.tuple #[.string (leS v 8), .int .i64 0]) ∧ Below w.heap.size w w' := by
  have hc := fun (c0 c1 c2 c3 c4 c5 c6 c7 : Int) => conv8 c0 c1 c2 c3 c4 c5 c6 c7 w 8 (by decide)
  go_enter Tryd.func81, Tryd.ntmps81
  go_wp2
  go_rounds 9
  go_ret2
  exact ⟨ret_str (str_8 v v0 v1), (Below.refl _ _).alloc (Nat.le_refl _) _⟩

theorem or_addr (x y : Int) (a : Nat) (ha : a ≤ 64) (hy : y % p2 a = 0) (hy0 : 0 ≤ y) (hy1 : y < p2 64) (hx0 : 0 ≤ x) (hx1 : x < p2 a) : bits .or .u64 x y = x + y := by
  have hle := p2_le ha
  have h := or_add y x a ha hy hy0 hy1 hx0 hx1
  have h64 := p2_64
  obtain ⟨x, rfl⟩ := Int.eq_ofNat_of_zero_le hx0
  obtain ⟨y, rfl⟩ := Int.eq_ofNat_of_zero_le hy0
  rw [bits_or_u64_nat y x (by omega) (by omega)] at h
  rw [bits_or_u64_nat x y (by omega) (by omega), Nat.or_comm, h]; omega
theorem get_step (s : ByteArray) (k : Nat) (h : k < s.size) (hs : k < 8) :
    bits .or .u64 (numTo s k) (IntKind.u64.wrap (IntKind.u64.wrap (s[k].toNat : Int) * p2 (8 * k))) = numTo s (k + 1) := by
  have hb := numTo_bd s k (by omega)
  have hr := byte_room s[k] k hs
  rw [wrap_byte, wrap_lo, lo_all _ 64 hr.2 hr.1, or_addr _ _ (8 * k) (by omega) (Int.mul_emod_left _ _) hr.2 hr.1 hb.1 hb.2, numTo_succ s k h]

theorem get_yes (s : ByteArray) (w : World) (h1 : 1 ≤ s.size) (h2 : s.size ≤ 8) :
    Calls Tryd.prog 86 #[.string s] w fun e w' => e = .returned (.tuple #[.int .u64 (numS s), .int .i64 0]) ∧ w = w' := by
  go_enter Tryd.func86, Tryd.ntmps86
  go_wp2
  go_loop [4, 16] (fun t i => ∃ k : Nat, k ≤ s.size ∧ i = .int .i64 k ∧ t = .int .u64 (numTo s k)) (fun _ i => s.size - (intOf i).toNat)
  case atStart => exact ⟨0, Nat.zero_le _, rfl, by rw [numTo_zero]⟩
  case round =>
    obtain ⟨k, hk, rfl, rfl⟩ := hrel
    by_cases hlt : k < s.size
    · have HG := Lib.hid (get_step s k hlt (by omega))
      go_wp2
      go_round
      case rel => exact ⟨k + 1, by omega, by go_num, by rw [← HG.out]; rfl⟩
      case measure => simp [intOf]; omega
    · obtain rfl : k = s.size := by omega
      go_wp2
      go_ret2
      exact ⟨rfl, rfl⟩

theorem put_fit (v : Int) (n : Nat) (w : World) (h1 : 1 ≤ n) (h2 : n ≤ 8) (v0 : 0 ≤ v) (hv : v < p2 (8 * n)) :
    Calls Tryd.prog 81 #[.int .u64 v, .int .i64 n] w fun e w' => e = .returned (.tuple #[.string (leS v n), .int .i64 0]) ∧ Below w.heap.size w w' := by
  obtain rfl | rfl | rfl | rfl | rfl | rfl | rfl | rfl : n = 1 ∨ n = 2 ∨ n = 3 ∨ n = 4 ∨ n = 5 ∨ n = 6 ∨ n = 7 ∨ n = 8 := by omega
  · exact put_1 v w v0 (by rw [show p2 (8 * 1) = 256 by decide] at hv; exact hv)
  · exact put_2 v w v0 (by rw [show p2 (8 * 2) = 65536 by decide] at hv; exact hv)
  · exact put_3 v w v0 (by rw [show p2 (8 * 3) = 16777216 by decide] at hv; exact hv)
  · exact put_4 v w v0 (by rw [show p2 (8 * 4) = 4294967296 by decide] at hv; exact hv)
  · exact put_5 v w v0 (by rw [show p2 (8 * 5) = 1099511627776 by decide] at hv; exact hv)
  · exact put_6 v w v0 (by rw [show p2 (8 * 6) = 281474976710656 by decide] at hv; exact hv)
  · exact put_7 v w v0 (by rw [show p2 (8 * 7) = 72057594037927936 by decide] at hv; exact hv)
  · exact put_8 v w v0 (by rw [show p2 (8 * 8) = 18446744073709551616 by decide] at hv; exact hv)

end Go.Proofs.YtjmoecfgpfdncaaDoor

/- Package tag, walked: May, get, put; what put leaves in the block that it fills. -/
namespace Go.Proofs.YtjmoecfgpfdncaaDoor
open Go.RowKit

/-- bytes as cells -/
def tca (l : List UInt8) : Array Value := (Lib.byteCells l).toArray
theorem tca_size (l : List UInt8) : (tca l).size = l.length := by simp [tca, Lib.byteCells]
/-- bytes laid over others, from a place on -/
def layL (l : List UInt8) (o : Nat) (m : List UInt8) : List UInt8 := l.take o ++ m ++ l.drop (o + m.length)
theorem tca_lay (l : List UInt8) (o : Nat) (m : List UInt8) : ((tca l).toList.take o ++ Lib.byteCells m ++ (tca l).toList.drop (o + m.length)).toArray = tca (layL l o m) := by
  simp [tca, layL, Lib.byteCells, List.map_append, List.map_take, List.map_drop]
theorem layL_length (l : List UInt8) (o : Nat) (m : List UInt8) (h : o + m.length ≤ l.length) : (layL l o m).length = l.length := by
  simp [layL]; omega

/-- copy of a text over a piece of a block of bytes -/
theorem copy_lay (g o n cap : Nat) (l : List UInt8) (t : TypeId) (w : World) (s : ByteArray) (ty : TypeId) (h : Blk w g (tca l) t) (hs : s.size ≤ n) (hf : o + s.size ≤ l.length) :
    Sem.run Tryd.prog (Builtin.copy_ #[55, 9] ty #[.slice (some ⟨g, o, none⟩) n cap, .string s]) w = .ok (goInt s.size) (w.setRow g (tca (layL l o (bs s)))) := by
  obtain ⟨i0, hi, hz0, hz1, hz2⟩ := info_parts Tryd.infoU8
  have e := Lib.run_copy_row_string (P := Tryd.prog) w 55 9 ty 5 g o n cap s (tca l) t Tryd.underlying55 (by rw [hi]; simp [hz1]) h hs (by rw [tca_size]; exact hf)
  have hl := tca_lay l o (bs s)
  rw [bs_length] at hl
  rw [e]
  unfold bs at hl ⊢
  rw [hl]

theorem tag_kind (k : Int) (w : World) : Calls Tryd.prog 79 #[.int .i64 k] w fun r w' => r = .returned (.bool (decide (1 ≤ k ∧ k ≤ 4))) ∧ w = w' := by
  go_enter Tryd.func79, Tryd.ntmps79
  go_wp2
  all_goals go_ret
  all_goals exact ⟨ret_bool (by rw [Bool.eq_iff_iff]; simp only [beq_iff_eq, beq_eq_false_iff_ne, ne_eq, decide_eq_true_eq, true_iff, false_iff, Bool.false_eq_true] at *; omega), rfl⟩
theorem tag_upto (v m : Int) (w : World) : Calls Tryd.prog 80 #[.int .i64 v, .int .i64 m] w fun r w' => r = .returned (.bool (decide (0 ≤ v ∧ v ≤ m))) ∧ w = w' := by
  go_enter Tryd.func80, Tryd.ntmps80
  go_wp2
  all_goals go_ret
  all_goals exact ⟨ret_bool (by rw [Bool.eq_iff_iff]; simp; try omega), rfl⟩

theorem tag_get (s : ByteArray) (w : World) (h1 : 1 ≤ s.size) (h2 : s.size ≤ 6) :
    Calls Tryd.prog 75 #[.string s] w fun r w' => r = .returned (.int .i64 (numS s)) ∧ w = w' := by
  have hn : 0 ≤ numS s ∧ numS s < 9223372036854775807 := by
    have h := numTo_bd s s.size (Nat.le_refl _)
    have h3 : p2 (8 * s.size) ≤ p2 48 := p2_le (by omega)
    have h4 : p2 48 = 281474976710656 := by decide
    unfold numS; omega
  obtain ⟨x, hx⟩ : ∃ x, numS s = x := ⟨_, rfl⟩
  have HX := Lib.hid hx
  rw [hx] at hn ⊢
  clear hx
  go_enter Tryd.func75, Tryd.ntmps75
  go_wp2_with fail
  refine (get_yes s _ h1 (by omega)).mono ?_
  rintro r w1 ⟨rfl, rfl⟩
  rw [HX.out]
  go_wp2_with fail
  go_ret
  exact ⟨rfl, rfl⟩

/-- what put leaves: the block filled anew, nothing else -/
def PutT (g : Nat) (cs : Array Value) (w : World) (r : Ending) (w' : World) : Prop := r = .returned (.tuple #[]) ∧ ∃ w1, Below w.heap.size w w1 ∧ w' = w1.setRow g cs
theorem tag_put (g o n cap : Nat) (v : Int) (l : List UInt8) (t : TypeId) (w : World) (h : Blk w g (tca l) t) (h1 : 1 ≤ n) (h2 : n ≤ 8) (v0 : 0 ≤ v) (v1 : v ≤ 9223372036854775807) (v2 : v < p2 (8 * n)) (hf : o + n ≤ l.length) :
    Calls Tryd.prog 62 #[.slice (some ⟨g, o, none⟩) n cap, .int .i64 v] w (PutT g (tca (layL l o (bs (leS v n)))) w) := by
  have hw : IntKind.u64.wrap v = v := by rw [IntKind.wrap_u64]; omega
  have HV := Lib.hid v2
  have HB := Lib.hid h
  clear v2 h
  go_enter Tryd.func62, Tryd.ntmps62
  go_wp2_with fail
  refine (put_fit v n _ h1 h2 v0 HV.out).mono ?_
  rintro r w1 ⟨rfl, hb1⟩
  have hz := leS_size v n
  have hcp := fun ty => copy_lay g o n cap l t w1 (leS v n) ty (HB.out.after hb1) (by omega) (by omega)
  have HB1 := Lib.hid hb1
  clear hb1 HB
  obtain ⟨S, hS⟩ : ∃ S, leS v n = S := ⟨_, rfl⟩
  rw [hS] at hcp hz ⊢
  have HS := Lib.hid hS
  clear hS
  go_wp2_with fail
  go_end0
  exact ⟨rfl, _, HB1.out, by rw [HS.out]⟩

theorem may_split (k l q e : Int) : mayB k l q e = (decide (1 ≤ k ∧ k ≤ 4) && decide (0 ≤ l ∧ l ≤ 4096) && decide (0 ≤ q ∧ q ≤ 281474976710655) && decide (0 ≤ e ∧ e ≤ 4294967295)) := by
  rw [Bool.eq_iff_iff, mayB_iff]
  unfold MayT
  simp [and_assoc]

set_option maxRecDepth 100000 in
theorem tag_may (k l q e : Int) (w : World) : Calls Tryd.prog 61 #[.agg (ta k l q e)] w (MayPost k l q e w) := by
  unfold MayPost
  rw [may_split]
  obtain ⟨b1, e1⟩ : ∃ b, decide (1 ≤ k ∧ k ≤ 4) = b := ⟨_, rfl⟩
  obtain ⟨b2, e2⟩ : ∃ b, decide (0 ≤ l ∧ l ≤ 4096) = b := ⟨_, rfl⟩
  obtain ⟨b3, e3⟩ : ∃ b, decide (0 ≤ q ∧ q ≤ 281474976710655) = b := ⟨_, rfl⟩
  obtain ⟨b4, e4⟩ : ∃ b, decide (0 ≤ e ∧ e ≤ 4294967295) = b := ⟨_, rfl⟩
  rw [e1, e2, e3, e4]
  have H1 := Lib.hid e1; have H2 := Lib.hid e2; have H3 := Lib.hid e3; have H4 := Lib.hid e4
  clear e1 e2 e3 e4
  unfold ta
  go_enter Tryd.func61, Tryd.ntmps61
  go_wp2_with fail
  refine (tag_kind k _).mono ?_
  rintro r w1 ⟨rfl, rfl⟩
  rw [H1.out]
  cases b1
  · go_wp2_with fail
    go_ret
    exact ⟨rfl, (Below.refl _ _).alloc (Nat.le_refl _) _⟩
  go_wp2_with fail
  refine (tag_upto l 4096 _).mono ?_
  rintro r w1 ⟨rfl, rfl⟩
  rw [H2.out]
  cases b2
  · go_wp2_with fail
    go_ret
    exact ⟨rfl, (Below.refl _ _).alloc (Nat.le_refl _) _⟩
  go_wp2_with fail
  refine (tag_upto q 281474976710655 _).mono ?_
  rintro r w1 ⟨rfl, rfl⟩
  rw [H3.out]
  cases b3
  · go_wp2_with fail
    go_ret
    exact ⟨rfl, (Below.refl _ _).alloc (Nat.le_refl _) _⟩
  go_wp2_with fail
  refine (tag_upto e 4294967295 _).mono ?_
  rintro r w1 ⟨rfl, rfl⟩
  rw [H4.out]
  go_wp2_with fail
  go_ret
  exact ⟨by cases b4 <;> rfl, (Below.refl _ _).alloc (Nat.le_refl _) _⟩

end Go.Proofs.YtjmoecfgpfdncaaDoor

/- Package tag, walked: Encode. -/
namespace Go.Proofs.YtjmoecfgpfdncaaDoor
set_option maxRecDepth 100000
open Go.RowKit

theorem size_a16 : (Tryd.prog.info? 106).map (·.size) = some 16 := by kernel_rfl
/-- the array's block, whole, and the tag's copy -/
def EncW (k l q e : Int) (g : Nat) (L : List UInt8) (w0 w : World) : Prop := Blk w g (tca L) 106 ∧ KT k l q e w0 w ∧ w0.heap.size < g
theorem EncW.drew {k l q e : Int} {g : Nat} {L : List UInt8} {w0 w : World} (h : EncW k l q e g L w0 w) : EncW k l q e g L w0 w.drew := ⟨h.1.drew, h.2.1.drew, h.2.2⟩
theorem KT.put {k l q e : Int} {w0 w : World} (h : KT k l q e w0 w) {g : Nat} (hg : w0.heap.size < g) (cs : Array Value) : KT k l q e w0 (w.setRow g cs) := by
  have hc : ∀ i, (w.setRow g cs).cell? ⟨w0.heap.size, i, none⟩ = w.cell? ⟨w0.heap.size, i, none⟩ := by
    intro i
    simp only [World.cell?, World.setRow, Array.getElem?_modify]
    rw [if_neg (by omega)]
  exact ⟨(hc 0).trans h.1, (hc 1).trans h.2.1, (hc 2).trans h.2.2.1, (hc 3).trans h.2.2.2.1, below_put (by omega) _ h.2.2.2.2⟩
theorem EncW.put {k l q e : Int} {g : Nat} {L L' : List UInt8} {w0 w w1 : World} (h : EncW k l q e g L w0 w) (hb : Below w.heap.size w w1) : EncW k l q e g L' w0 (w1.setRow g (tca L')) :=
  ⟨(h.1.after hb).put _, (h.2.1.call hb).put h.2.2 _, h.2.2⟩

/-- a block of bytes, as a text -/
theorem conv_tca {w : World} {g : Nat} {L : List UInt8} {t : TypeId} (h : Blk w g (tca L) t) (n cap : Nat) (hn : L.length = n) :
    Sem.run Tryd.prog (convert 55 9 (.slice (some ⟨g, 0, none⟩) n cap)) w = .ok (.string ⟨L.toArray⟩) w := by
  have hr := run_convert_bytes_arg (P := Tryd.prog) w 55 5 Tryd.underlying55 Tryd.underlying5 g 0 n cap (L.map fun c => (c.toNat : Int)) (by simp; omega) (by
    intro i hi
    have h3 : i < L.length := by omega
    rw [Nat.zero_add, h.cell i]
    simp [List.getD, h3, tca, Lib.byteCells]) 9 Tryd.underlying9
  rw [hr]
  congr 2
  apply strOfNums_eq
  rw [List.map_map]
  have e : ((fun n : Int => UInt8.ofNat n.toNat) ∘ fun b : UInt8 => (b.toNat : Int)) = id := by funext b; simp
  rw [e, List.map_id]

def encL0 : List UInt8 := [27, 0, 0, 0, 0, 0, 0, 0, 0, 0, 0, 0, 0, 0, 0, 0]
theorem enc_start (w : World) : Blk ((w.alloc (.cells #[.int .u8 0, .int .u8 0, .int .u8 0, .int .u8 0, .int .u8 0, .int .u8 0, .int .u8 0, .int .u8 0, .int .u8 0, .int .u8 0, .int .u8 0, .int .u8 0, .int .u8 0, .int .u8 0, .int .u8 0, .int .u8 0] 106)).setCell ⟨w.heap.size, 0, none⟩ (.int .u8 27)) w.heap.size (tca encL0) 106 :=
  (Blk.new w _ _).set 0 _ rfl
theorem enc_end (k l q e : Int) (h : MayT k l q e) : (⟨(layL (layL (layL (layL (layL encL0 1 (bs (leS k 1))) 2 (bs (leS l 2))) 4 (bs (leS q 6))) 10 (bs (leS e 4))) 14 (bs ⟨#[0, 0]⟩)).toArray⟩ : ByteArray) = tagS k l q e := by
  have e1 : bs (leS k 1) = [UInt8.ofNat k.toNat] := by
    obtain ⟨h1, h2, _⟩ := h
    have : k % 256 = k := by omega
    show [UInt8.ofNat (k % 256).toNat] = _
    rw [this]
  rw [e1]
  rfl

set_option maxRecDepth 100000 in
theorem tag_enc_yes (k l q e : Int) (w : World) (hm : MayT k l q e) : Calls Tryd.prog 42 #[.agg (ta k l q e)] w fun r w' => r = .returned (.tuple #[.string (tagS k l q e), .int .i64 0]) ∧ Below w.heap.size w w' := by
  have HB : Hid (mayB k l q e = true) := (mayB_iff k l q e).2 hm
  have HE := Lib.hid (enc_end k l q e hm)
  obtain ⟨h1, h2, h3, h4, h5, h6, h7, h8⟩ := hm
  have b1 : k < p2 (8 * 1) := by rw [show p2 (8 * 1) = 256 by decide]; omega
  have b2 : l < p2 (8 * 2) := by rw [show p2 (8 * 2) = 65536 by decide]; omega
  have b6 : q < p2 (8 * 6) := by rw [show p2 (8 * 6) = 281474976710656 by decide]; omega
  have b4 : e < p2 (8 * 4) := by rw [show p2 (8 * 4) = 4294967296 by decide]; omega
  have HN := Lib.hid (And.intro b1 (And.intro b2 (And.intro b6 b4)))
  clear b1 b2 b6 b4
  have hK := KT.first k l q e w 34
  go_enter Tryd.func42, Tryd.ntmps42
  go_wp2_with (refine wpList_load_row rfl 34 (.tmp 1) rfl w.heap.size rfl 34 (ta k l q e) (0, 0) _ (Blk.new w (ta k l q e) 34) Tryd.underlying34 rfl size_tag ?_)
  refine (tag_may k l q e _).mono ?_
  rintro r w1 ⟨rfl, hb1⟩
  have hK1 := hK.call hb1
  rw [HB.out]
  clear hK
  go_wp2_with fail
  have hE : EncW k l q e w1.heap.size encL0 w (w1.alloc (.cells (tca encL0) 106)) := ⟨Blk.new _ _ _, hK1.alloc _, cell_lt hK1.1⟩
  change Code.wp _ _ _ _ (w1.alloc (.cells (tca encL0) 106))
  generalize (w1.alloc (.cells (tca encL0) 106)) = w2 at hE ⊢
  generalize w1.heap.size = g at hE ⊢
  clear hb1 hK1
  obtain ⟨c0, c1, c2, c3, _⟩ := hE.2.1
  have HE0 := Lib.hid hE
  clear hE
  go_still_tail 3, (by kernel_rfl)
  change wpList _ _ _ _ _ w2.drew
  clear c0 c1 c2 c3
  go_wp2_with fail
  refine (tag_put g 1 1 15 k encL0 106 _ HE0.out.1.drew (by decide) (by decide) (by omega) (by omega) HN.out.1 (Nat.le_of_ble_eq_true rfl)).mono ?_
  rintro r w2d ⟨rfl, w2e, hb, rfl⟩
  have hE := EncW.put (L' := layL encL0 1 (bs (leS k 1))) HE0.out.drew hb
  generalize w2e.setRow g _ = w3 at hE ⊢
  clear hb HE0
  go_wp2_with fail
  obtain ⟨c0, c1, c2, c3, _⟩ := hE.2.1
  have HE1 := Lib.hid hE
  clear hE
  go_still_tail 3, (by kernel_rfl)
  change wpList _ _ _ _ _ w3.drew
  clear c0 c1 c2 c3
  go_wp2_with fail
  refine (tag_put g 2 2 14 l (layL encL0 1 (bs (leS k 1))) 106 _ HE1.out.1.drew (by decide) (by decide) (by omega) (by omega) HN.out.2.1 (Nat.le_of_ble_eq_true rfl)).mono ?_
  rintro r w3d ⟨rfl, w3e, hb, rfl⟩
  have hE := EncW.put (L' := layL (layL encL0 1 (bs (leS k 1))) 2 (bs (leS l 2))) HE1.out.drew hb
  generalize w3e.setRow g _ = w4 at hE ⊢
  clear hb HE1
  go_wp2_with fail
  obtain ⟨c0, c1, c2, c3, _⟩ := hE.2.1
  have HE2 := Lib.hid hE
  clear hE
  go_still_tail 3, (by kernel_rfl)
  change wpList _ _ _ _ _ w4.drew
  clear c0 c1 c2 c3
  go_wp2_with fail
  refine (tag_put g 4 6 12 q (layL (layL encL0 1 (bs (leS k 1))) 2 (bs (leS l 2))) 106 _ HE2.out.1.drew (by decide) (by decide) (by omega) (by omega) HN.out.2.2.1 (Nat.le_of_ble_eq_true rfl)).mono ?_
  rintro r w4d ⟨rfl, w4e, hb, rfl⟩
  have hE := EncW.put (L' := layL (layL (layL encL0 1 (bs (leS k 1))) 2 (bs (leS l 2))) 4 (bs (leS q 6))) HE2.out.drew hb
  generalize w4e.setRow g _ = w5 at hE ⊢
  clear hb HE2
  go_wp2_with fail
  obtain ⟨c0, c1, c2, c3, _⟩ := hE.2.1
  have HE3 := Lib.hid hE
  clear hE
  go_still_tail 3, (by kernel_rfl)
  change wpList _ _ _ _ _ w5.drew
  clear c0 c1 c2 c3
  go_wp2_with fail
  refine (tag_put g 10 4 6 e (layL (layL (layL encL0 1 (bs (leS k 1))) 2 (bs (leS l 2))) 4 (bs (leS q 6))) 106 _ HE3.out.1.drew (by decide) (by decide) (by omega) (by omega) HN.out.2.2.2 (Nat.le_of_ble_eq_true rfl)).mono ?_
  rintro r w5d ⟨rfl, w5e, hb, rfl⟩
  have hE := EncW.put (L' := layL (layL (layL (layL encL0 1 (bs (leS k 1))) 2 (bs (leS l 2))) 4 (bs (leS q 6))) 10 (bs (leS e 4))) HE3.out.drew hb
  generalize w5e.setRow g _ = w6 at hE ⊢
  clear hb HE3
  have hcp := fun ty => copy_lay g 14 2 2 (layL (layL (layL (layL encL0 1 (bs (leS k 1))) 2 (bs (leS l 2))) 4 (bs (leS q 6))) 10 (bs (leS e 4))) 106 w6 ⟨#[0, 0]⟩ ty hE.1 (by decide) (Nat.le_of_ble_eq_true rfl)
  have hcv := conv_tca (hE.1.put (tca (layL (layL (layL (layL (layL encL0 1 (bs (leS k 1))) 2 (bs (leS l 2))) 4 (bs (leS q 6))) 10 (bs (leS e 4))) 14 (bs ⟨#[0, 0]⟩)))) 16 16 rfl
  have HF := Lib.hid (below_put (Nat.le_of_lt hE.2.2) (tca (layL (layL (layL (layL (layL encL0 1 (bs (leS k 1))) 2 (bs (leS l 2))) 4 (bs (leS q 6))) 10 (bs (leS e 4))) 14 (bs ⟨#[0, 0]⟩))) hE.2.1.2.2.2.2)
  rw [HE.out] at hcv
  clear hE HN HE HB
  go_wp2_with fail
  go_ret2
  exact ⟨rfl, HF.out⟩

set_option maxRecDepth 100000 in
theorem tag_enc_no (k l q e : Int) (w : World) (hm : ¬ MayT k l q e) : Calls Tryd.prog 42 #[.agg (ta k l q e)] w fun r w' => r = .returned (.tuple #[.string ByteArray.empty, .int .i64 1]) ∧ Below w.heap.size w w' := by
  have HB : Hid (mayB k l q e = false) := by rw [← Bool.not_eq_true, mayB_iff]; exact hm
  clear hm
  have hK := KT.first k l q e w 34
  go_enter Tryd.func42, Tryd.ntmps42
  go_wp2_with (refine wpList_load_row rfl 34 (.tmp 1) rfl w.heap.size rfl 34 (ta k l q e) (0, 0) _ (Blk.new w (ta k l q e) 34) Tryd.underlying34 rfl size_tag ?_)
  refine (tag_may k l q e _).mono ?_
  rintro r w1 ⟨rfl, hb1⟩
  have HK1 := Lib.hid (hK.call hb1)
  rw [HB.out]
  clear hK hb1
  go_wp2_with fail
  go_ret2
  exact ⟨rfl, HK1.out.2.2.2.2⟩

theorem tag_enc (k l q e : Int) (w : World) : Calls Tryd.prog 42 #[.agg (ta k l q e)] w (EncT k l q e w) := by
  unfold EncT encT encE
  by_cases h : MayT k l q e
  · rw [if_pos h, if_pos h]; exact tag_enc_yes k l q e w h
  · rw [if_neg h, if_neg h]; exact tag_enc_no k l q e w h

end Go.Proofs.YtjmoecfgpfdncaaDoor
