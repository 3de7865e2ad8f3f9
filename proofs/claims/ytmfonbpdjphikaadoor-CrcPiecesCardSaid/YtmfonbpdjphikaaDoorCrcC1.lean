/- Contracts of package crc: More, Sum, Seal, Whole. The table of half bytes lies in a package variable: its cells are a premise. -/
import Derived.Test.YtmfonbpdjphikaaDoorCrcR3
import Derived.Laws.DeepBits32
import Derived.Deep.RegionWith
import Derived.BigQuiet
import Derived.Deep.QuietTactic
namespace Go.Proofs.YtmfonbpdjphikaaDoor
open Go.RowKit

/-- the table of half bytes, as the program's text lays it -/
def TabAt (w : World) : Prop := ∀ i, i < 16 → w.cell? ⟨0, i, none⟩ = some (.int .u32 ((half i : Nat) : Int))
theorem TabAt.below {w w' : World} {B : Nat} (h : TabAt w) (hb : Below B w w') (hB : 0 < B) : TabAt w' := by
  intro i hi
  rw [hb.cell (p := ⟨0, i, none⟩) hB]; exact h i hi

theorem tab_half : ∀ i, i < 16 → ([0, 498536548, 997073096, 651767980, 1994146192, 1802195444, 1303535960, 1342533948, 3988292384, 4027552580, 3604390888, 3412177804, 2607071920, 2262029012, 2685067896, 3183342108] : List Int).getD i 0 = ((half i : Nat) : Int) := by decide +kernel
theorem tabAt_of {w : World} (h : ∀ i, i < 16 → w.cell? ⟨0, i, none⟩ = some (.int .u32 (([0, 498536548, 997073096, 651767980, 1994146192, 1802195444, 1303535960, 1342533948, 3988292384, 4027552580, 3604390888, 3412177804, 2607071920, 2262029012, 2685067896, 3183342108] : List Int).getD i 0))) : TabAt w := by
  intro i hi
  rw [h i hi, tab_half i hi]

/-- the state behind so many bytes -/
def moreTo (st : Nat) (s : ByteArray) (k : Nat) : Nat := more st ((bs s).take k)
theorem moreTo_zero (st : Nat) (s : ByteArray) : moreTo st s 0 = st := by unfold moreTo; rw [List.take_zero, more_nil]
theorem moreTo_all (st : Nat) (s : ByteArray) : moreTo st s s.size = more st (bs s) := by
  unfold moreTo; rw [List.take_of_length_le (by rw [bs_length]; omega)]
theorem moreTo_lt (st : Nat) (s : ByteArray) (k : Nat) (h : st < 2 ^ 32) : moreTo st s k < 2 ^ 32 := more_lt _ _ h
theorem moreTo_succ (st : Nat) (s : ByteArray) (k : Nat) (h : k < s.size) : moreTo st s (k + 1) = sN 4 (sN 4 (moreTo st s k ^^^ s[k].toNat)) := by
  unfold moreTo
  rw [List.take_succ_eq_append_getElem (by rw [bs_length]; exact h), more_snoc, ← sN_add]
  rfl
theorem wraps_u32 (n : Int) (h0 : 0 ≤ n) (h1 : n < 2 ^ 32) : IntKind.u32.wrap n = n := by rw [IntKind.wrap_u32]; omega
theorem xor_u32 (a b : Nat) (ha : a < 4294967296) (hb : b < 4294967296) : bits .xor .u32 (a : Int) (b : Int) = ((a ^^^ b : Nat) : Int) := by
  have hx : a ^^^ b < 2 ^ 32 := Nat.xor_lt_two_pow (by omega) (by omega)
  have h1 : (BitVec.ofInt 32 (a : Int)).toNat = a := by
    rw [BitVec.ofInt_natCast, BitVec.toNat_ofNat]; exact Nat.mod_eq_of_lt (by omega)
  have h2 : (BitVec.ofInt 32 (b : Int)).toNat = b := by
    rw [BitVec.ofInt_natCast, BitVec.toNat_ofNat]; exact Nat.mod_eq_of_lt (by omega)
  show IntKind.u32.wrap ((BitVec.ofInt 32 (a : Int) ^^^ BitVec.ofInt 32 (b : Int)).toNat : Int) = _
  rw [BitVec.toNat_xor, h1, h2, IntKind.wrap_u32]
  omega
theorem and_u32_15 (y : Nat) (hy : y < 4294967296) : bits .and .u32 (y : Int) 15 = ((y % 16 : Nat) : Int) := by
  have h := (bits_nat .u32 32 (by decide) wraps_u32 y 15 (by omega) (by decide)).1
  rw [show (15 : Int) = ((15 : Nat) : Int) from rfl, h, show 15 = 2 ^ 4 - 1 from rfl, Nat.and_two_pow_sub_one_eq_mod]
/-- a half byte's step, as the code takes it -/
theorem half_step (y q : Nat) (hy : y < 4294967296) (hq : y % 16 = q) : bits .xor .u32 ((y : Int) / 16) ((half q : Nat) : Int) = ((sN 4 y : Nat) : Int) := by
  subst hq
  have h := xor_u32 (y / 16) (half (y % 16)) (by omega) (sN_lt 4 _ (by omega))
  rw [sN_half, ← h]; rfl

theorem mod_u32 (y : Nat) : (y : Int) % 16 = ((y % 16 : Nat) : Int) := by omega
/-- one half byte's step -/
theorem half_any (y : Nat) (w : World) (hy : y < 4294967296) (hT : TabAt w) :
    Calls Tryd.prog 16 #[.int .u32 y] w fun e w' => e = .returned (.int .u32 (sN 4 y : Nat)) ∧ w = w' := by
  obtain ⟨q, hq⟩ : ∃ q, y % 16 = q := ⟨_, rfl⟩
  have hq16 : q < 16 := by omega
  have e3 := half_step y q hy hq
  have hcell := hT q hq16
  obtain ⟨u, hu⟩ : ∃ u, half q = u := ⟨_, rfl⟩
  rw [hu] at e3 hcell
  have hq2 : (y : Int) % 16 = (q : Int) := by omega
  have HE := Lib.hid e3
  clear hu hq hT e3
  go_enter Tryd.func16, Tryd.ntmps16
  go_wp2
  go_ret
  exact ⟨ret_int HE.out, rfl⟩

set_option maxRecDepth 100000 in
theorem more_any (st : Nat) (s : ByteArray) (w : World) (hs : st < 4294967296) (hm : s.size ≤ 100000) (hT : TabAt w) :
    Calls Tryd.prog 10 #[.int .u32 st, .string s] w fun e w' => e = .returned (.int .u32 (more st (bs s) : Nat)) ∧ w = w' := by
  have HT := Lib.hid hT
  have HA := Lib.hid (moreTo_all st s)
  have HL := Lib.hid (fun k => moreTo_lt st s k hs)
  clear hT
  go_enter Tryd.func10, Tryd.ntmps10
  go_wp2
  go_loop [0, 8] (fun x i => ∃ k : Nat, k ≤ s.size ∧ i = .int .i64 k ∧ x = .int .u32 (moreTo st s k : Nat)) (fun _ i => s.size - (intOf i).toNat)
  case atStart => exact ⟨0, Nat.zero_le _, rfl, by rw [moreTo_zero]⟩
  case round =>
    obtain ⟨k, hk, rfl, rfl⟩ := hrel
    by_cases hlt : k < s.size
    · have HS := Lib.hid (moreTo_succ st s k hlt)
      obtain ⟨x, hx⟩ : ∃ x, moreTo st s k = x := ⟨_, rfl⟩
      have hx32 : x < 4294967296 := by rw [← hx]; exact HL.out k
      rw [hx] at HS ⊢
      clear hx
      obtain ⟨c, hc⟩ : ∃ c : Nat, s[k].toNat = c := ⟨_, rfl⟩
      have hc2 : c ≤ 255 := by have : s[k].toNat < 256 := s[k].toNat_lt; omega
      rw [hc] at HS
      obtain ⟨y, hy⟩ : ∃ y, x ^^^ c = y := ⟨_, rfl⟩
      have hy32 : y < 4294967296 := by rw [← hy]; exact Nat.xor_lt_two_pow (n := 32) hx32 (by omega)
      have e1 := xor_u32 x c hx32 (by omega)
      rw [hy] at e1 HS
      clear hy hx32
      go_wp2_with fail
      refine (half_any y _ hy32 HT.out).mono ?_
      rintro e w' ⟨rfl, rfl⟩
      obtain ⟨z, hz⟩ : ∃ z, sN 4 y = z := ⟨_, rfl⟩
      have hz32 : z < 4294967296 := by rw [← hz]; exact sN_lt 4 y hy32
      rw [hz] at HS ⊢
      clear hz
      go_wp2_with fail
      refine (half_any z _ hz32 HT.out).mono ?_
      rintro e w' ⟨rfl, rfl⟩
      rw [← HS.out]
      go_wp2_with fail
      go_round
      case rel => exact ⟨k + 1, by omega, by go_num, rfl⟩
      case measure => simp [intOf]; omega
    · obtain rfl : k = s.size := by omega
      go_wp2
      go_ret
      exact ⟨ret_int (by rw [HA.out]), rfl⟩

theorem sum_xor (l : List UInt8) : bits .xor .u32 IntKind.u32.max ((more ones32 l : Nat) : Int) = ((sumN l : Nat) : Int) := by
  have h := more_lt ones32 l (by decide)
  rw [show IntKind.u32.max = ((ones32 : Nat) : Int) from rfl, xor_u32 _ _ (by decide) h, Nat.xor_comm]; rfl
theorem sum_xor_right (l : List UInt8) : bits .xor .u32 ((more ones32 l : Nat) : Int) 4294967295 = ((sumN l : Nat) : Int) := by
  rw [show (4294967295 : Int) = ((ones32 : Nat) : Int) from rfl, xor_u32 _ _ (more_lt ones32 l (by decide)) (by decide)]; rfl
theorem sum_any (s : ByteArray) (w : World) (hm : s.size ≤ 100000) (hT : TabAt w) :
    Calls Tryd.prog 8 #[.string s] w fun e w' => e = .returned (.int .u32 (sumN (bs s) : Nat)) ∧ w = w' := by
  have HT := Lib.hid hT
  have HS := Lib.hid (sum_xor_right (bs s))
  clear hT
  go_enter Tryd.func8, Tryd.ntmps8
  go_wp2_with fail
  refine (more_any 4294967295 s _ (by decide) hm HT.out).mono ?_
  rintro e w' ⟨rfl, rfl⟩
  rw [show more 4294967295 (bs s) = more ones32 (bs s) from rfl]
  go_wp2_with fail
  go_ret
  exact ⟨ret_int (by rw [← HS.out]), rfl⟩

theorem conv4 (c0 c1 c2 c3 : Int) (W : World) :
    Sem.run Tryd.prog (convert 31 9 (.slice (some ⟨W.heap.size, 0, none⟩) 4 4)) (W.alloc (.cells #[.int .u8 c0, .int .u8 c1, .int .u8 c2, .int .u8 c3] 44))
      = .ok (.string (strOfNums [c0, c1, c2, c3])) (W.alloc (.cells #[.int .u8 c0, .int .u8 c1, .int .u8 c2, .int .u8 c3] 44)) := by
  refine run_convert_bytes_arg (P := Tryd.prog) _ 31 5 Tryd.underlying31 Tryd.underlying5 W.heap.size 0 4 4 [c0, c1, c2, c3] rfl ?_ 9 Tryd.underlying9
  intro i hi
  rw [Nat.zero_add, World.cell?_alloc_new]
  rcases i with _ | _ | _ | _ | i
  all_goals first | omega | rfl

theorem four_str (N : Nat) (h : N < 2 ^ 32) : strOfNums [(N : Int) % 256, (N : Int) / 256 % 256, (N : Int) / 65536 % 256, (N : Int) / 16777216] = ⟨(tail4 N).toArray⟩ := by
  apply strOfNums_eq
  have e0 : ((N : Int) % 256).toNat = N % 256 := by omega
  have e1 : ((N : Int) / 256 % 256).toNat = N / 256 % 256 := by omega
  have e2 : ((N : Int) / 65536 % 256).toNat = N / 65536 % 256 := by omega
  have e3 : ((N : Int) / 16777216).toNat = N / 16777216 % 256 := by omega
  simp only [List.map, e0, e1, e2, e3, tail4]

set_option maxRecDepth 100000 in
theorem tail_any (s : ByteArray) (w : World) (hm : s.size ≤ 100000) (hT : TabAt w) :
    Calls Tryd.prog 21 #[.string s] w fun e w' => e = .returned (.string ⟨(tail4 (sumN (bs s))).toArray⟩) ∧ Below w.heap.size w w' := by
  have HT := Lib.hid hT
  have hL := sumN_lt (bs s)
  clear hT
  have hc := fun (c0 c1 c2 c3 : Int) => conv4 c0 c1 c2 c3 w
  go_enter Tryd.func21, Tryd.ntmps21
  go_wp2_with fail
  refine (sum_any s _ hm HT.out).mono ?_
  rintro e w' ⟨rfl, rfl⟩
  obtain ⟨N, hN⟩ : ∃ N, sumN (bs s) = N := ⟨_, rfl⟩
  rw [hN] at hL ⊢
  have estr := four_str N hL
  have HN := Lib.hid hN
  clear hN
  go_wp2_with fail
  go_rounds 5
  go_ret
  exact ⟨by rw [HN.out]; rfl, (Below.refl _ _).alloc (Nat.le_refl _) _⟩

set_option maxRecDepth 100000 in
theorem seal_any (s : ByteArray) (w : World) (hm : s.size ≤ 100000) (hT : TabAt w) :
    Calls Tryd.prog 12 #[.string s] w fun e w' => e = .returned (.string (sealS s)) ∧ Below w.heap.size w w' := by
  have HT := Lib.hid hT
  clear hT
  go_enter Tryd.func12, Tryd.ntmps12
  go_wp2_with fail
  obtain ⟨t, ht, htz⟩ := tail_str (sumN (bs s))
  refine (tail_any s _ hm HT.out).mono ?_
  rintro e w1 ⟨rfl, hb1⟩
  have HS : Hid (s ++ t = sealS s) := by rw [← ht]; exact seal_cat s
  have HB1 := Lib.hid hb1
  rw [ht]
  clear hb1 ht
  go_wp2_with fail
  go_ret
  exact ⟨by rw [← HS.out]; rfl, HB1.out⟩

end Go.Proofs.YtmfonbpdjphikaaDoor
