/- Texts of one claim, merged: HamC5, CrcC1, CrcC2, FrT, BitsP, TagC0, TagC2, TagC3, TagC1. -/
import Derived.Test.YtlacmfacigfioaaDoorM6
import Derived.Test.YtlacmfacigfioaaDoorM3
import Derived.Test.YtlacmfacigfioaaDoorM1
import Derived.Laws.DeepBits32
import Derived.Deep.RegionWith
import Derived.BigQuiet
import Derived.Deep.QuietTactic
import Derived.Test.YtlacmfacigfioaaDoorM2
import Derived.Lib.BufferWrite
import Derived.StillTailTactics

/- Contracts of package ham: Decode. -/
namespace Go.Proofs.YtlacmfacigfioaaDoor
set_option maxRecDepth 100000
open Go.RowKit

/-- what each operation of Decode's two calls leaves -/
def RD (l : List UInt8) (p : Nat) (o : Bool) : Nat → Value → World → Prop
  | 0, v, _ => v = .agg (ca l)
  | 1, v, _ => v = .int .u8 p
  | 2, v, _ => v = .agg (ca l)
  | 3, v, _ => v = .bool o
  | 4, v, _ => v = .int .u8 p
  | _, v, _ => v = .bool o
def CD (w0 : World) (l : List UInt8) (w : World) : Prop := ChunkAt w w0.heap.size l ∧ HamTab w ∧ Below w0.heap.size w0 w
def HamT_ (_ _ : World) : Prop := True
theorem RD.mono {l : List UInt8} {p : Nat} {o : Bool} : ∀ (i : Nat) (v : Value) (w w' : World), RD l p o i v w → HamT_ w w' → RD l p o i v w' := by
  intro i v w w' h _
  unfold RD at *
  split at h <;> exact h

/-- the frame while Decode's two calls are made -/
def BaseD (s : ByteArray) (B : Nat) (a : Act) : Prop := ∃ u6 u7 u14 u15 u16 u17 : Value, a = ⟨#[.string s, undef, .string ⟨#[]⟩, .int .i64 0, .int .i64 0, .pointer (some ⟨B, 0, none⟩), u6, u7, .string s, .int .i64 9, .bool false, .slice (some ⟨B, 0, none⟩) 9 9, .string s, .int .i64 9, u14, u15, u16, u17, undef, undef, undef, undef, undef, undef, undef, undef, undef, undef, undef, undef, undef, undef, undef, undef, undef, undef, undef, undef, undef], []⟩
theorem BaseD.size {s : ByteArray} {B : Nat} {a : Act} (h : BaseD s B a) : a.tmps.size = 39 := by
  obtain ⟨u6, u7, u14, u15, u16, u17, rfl⟩ := h
  rfl
theorem BaseD.put {s : ByteArray} {B : Nat} {a : Act} {v : Value} (h : BaseD s B a) : BaseD s B (a.put (some 14) v) ∧ BaseD s B (a.put (some 15) v) ∧ BaseD s B (a.put (some 16) v) ∧ BaseD s B (a.put (some 17) v) ∧ BaseD s B (a.put (some 6) v) ∧ BaseD s B (a.put (some 7) v) := by
  obtain ⟨u6, u7, u14, u15, u16, u17, rfl⟩ := h
  exact ⟨⟨u6, u7, v, u15, u16, u17, rfl⟩, ⟨u6, u7, u14, v, u16, u17, rfl⟩, ⟨u6, u7, u14, u15, v, u17, rfl⟩, ⟨u6, u7, u14, u15, u16, v, rfl⟩, ⟨v, u7, u14, u15, u16, u17, rfl⟩, ⟨u6, v, u14, u15, u16, u17, rfl⟩⟩

theorem take9 (s : ByteArray) (h : s.size = 9) : bs s ++ List.replicate (9 - s.size) 0 = bs s := by rw [h]; simp
theorem bs9 (s : ByteArray) (h : s.size = 9) : (bs s).length = 9 := by rw [bs_length, h]

set_option maxRecDepth 100000 in
theorem ham_dec_no (s : ByteArray) (w : World) (h : s.size ≠ 9) (hm : s.size ≤ maxLen) :
    Calls Tryd.prog 62 #[.string s] w fun e w' => e = .returned (.tuple #[.string ByteArray.empty, .int .i64 0, .int .i64 4]) ∧ Below w.heap.size w w' := by
  have hm2 : (s.size : Int) ≤ 9223372036854775807 := by unfold maxLen at hm; omega
  have h2 : (s.size : Int) ≠ 9 := by omega
  clear hm
  go_enter Tryd.func62, Tryd.ntmps62
  go_wp2
  go_ret3
  exact ⟨rfl, (Below.refl _ _).alloc (Nat.le_refl _) _⟩

theorem ext8 (s : ByteArray) : (⟨((bs s).take 8).toArray⟩ : ByteArray) = s.extract 0 8 := by
  apply bs_inj
  rw [take_ext]; rfl
theorem fix8 (s : ByteArray) (h : s.size = 9) (p : Nat) : (⟨((turnL (bs s) p 64).take 8).toArray⟩ : ByteArray) = fixS s p := by
  apply bs_inj
  unfold turnL fixS
  by_cases h2 : idx p < 64
  · rw [if_pos h2, if_pos h2, take_ext]
    show (fl (bs s) (idx p / 8) (idx p % 8)).take 8 = ((flipS s (idx p / 8) (idx p % 8)).data.toList).take 8
    rw [flipS_list _ _ _ (by omega)]; rfl
  · rw [if_neg h2, if_neg h2, take_ext]; rfl
theorem ham_odd_no {s : ByteArray} (h : oddB (bs s) = false) : cnt (numN (bs s)) 72 % 2 = 0 := by
  unfold oddB at h
  have := of_decide_eq_false h
  omega
theorem ham_odd_yes {s : ByteArray} (h : oddB (bs s) = true) : ¬ cnt (numN (bs s)) 72 % 2 = 0 := by
  unfold oddB at h
  have := of_decide_eq_true h
  omega
theorem CD.call {w0 w w' : World} {l : List UInt8} (h : CD w0 l w) (hg : 0 < w0.heap.size) (hb : Below w.heap.size w w') : CD w0 l w' :=
  ⟨h.1.after hb, h.2.1.below hb (by have := h.2.2.size; omega), h.2.2.trans (hb.mono h.2.2.size)⟩

set_option maxHeartbeats 1000000 in
set_option maxRecDepth 100000 in
theorem ham_dec_at (s : ByteArray) (w : World) (h : s.size = 9) (hT : HamTab w) (hg : 0 < w.heap.size) : Calls Tryd.prog 62 #[.string s] w (DecPost s w) := by
  have hcp := fun ty => copy_chunk s w (by omega) ty
  rw [take9 s h] at hcp
  have h9 : (s.size : Int) = 9 := by omega
  obtain ⟨p, hpe⟩ : ∃ p, left (numN (bs s)) 72 = p := ⟨_, rfl⟩
  obtain ⟨o, hoe⟩ : ∃ o, oddB (bs s) = o := ⟨_, rfl⟩
  have hp7 : p < 128 := by rw [← hpe]; exact left_lt _ _
  have hLen := bs9 s h
  have HP := Lib.hid hpe
  have HO := Lib.hid hoe
  have HT := Lib.hid hT
  have HL := Lib.hid hLen
  have hs := size_ca (bs s) hLen
  clear hpe hoe hT hLen
  go_enter Tryd.func62, Tryd.ntmps62
  go_wp2
  refine wp_region_list 39 (BaseD s w.heap.size) (CD w (bs s)) HamT_ (RD (bs s) p o) rfl (by kernel_rfl) (fun a h => h.size) RD.mono ?base ?start ⟨_, _, _, _, _, _, rfl⟩ ?steps ?fin
  case base => exact ⟨fun a v h => h.put.1, fun a v h => h.put.2.1, fun a v h => h.put.2.2.1, fun a v h => h.put.2.2.2.1, fun a v h => h.put.2.2.2.2.1, fun a v h => h.put.2.2.2.2.2, trivial⟩
  case start => exact ⟨(ChunkAt.new w (bs s)).drew, fun i hi => HT.out.below ((Below.refl _ _).alloc (Nat.le_refl _) _) hg i hi, ((Below.refl _ _).alloc (Nat.le_refl _) _).drew⟩
  case steps =>
    clear hcp
    refine ⟨?_, ?_, ?_, ?_, ?_, ?_, trivial⟩
    all_goals
      refine ⟨rfl, ?_⟩
      intro a w' hC hB hR
      obtain ⟨u6, u7, u14, u15, u16, u17, rfl⟩ := hB
      have HC := Lib.hid hC
      clear hC
    · exact wp_load_row 75 (.tmp 5) rfl w.heap.size rfl 75 (ca (bs s)) (0, 0) _ HC.out.1 Tryd.underlying75 rfl hs ⟨_, rfl, HC.out, trivial, rfl⟩
    · have h0 := hR ⟨0, .data⟩ (by simp) rfl
      clear hR
      simp [RD, slotOf] at h0
      subst h0
      unfold Oper.wp
      go_simp
      refine (ham_left (bs s) _ HL.out HC.out.2.1 (by have := HC.out.2.2.size; omega)).mono ?_
      rintro e w1 ⟨rfl, hb1⟩
      exact ⟨HC.out.call hg hb1, trivial, congrArg (fun n : Nat => Value.int .u8 (n : Int)) HP.out⟩
    · exact wp_load_row 75 (.tmp 5) rfl w.heap.size rfl 75 (ca (bs s)) (0, 0) _ HC.out.1 Tryd.underlying75 rfl hs ⟨_, rfl, HC.out, trivial, rfl⟩
    · have h0 := hR ⟨2, .data⟩ (by simp) rfl
      clear hR
      simp [RD, slotOf] at h0
      subst h0
      unfold Oper.wp
      go_simp
      refine (ham_odd (bs s) _ HL.out).mono ?_
      rintro e w1 ⟨rfl, hb1⟩
      exact ⟨HC.out.call hg hb1, trivial, congrArg Value.bool HO.out⟩
    · have h0 := hR ⟨1, .data⟩ (by simp) rfl
      clear hR
      simp [RD, slotOf] at h0
      subst h0
      unfold Oper.wp
      go_simp
      exact ⟨HC.out, trivial, rfl⟩
    · have h0 := hR ⟨3, .data⟩ (by simp) rfl
      clear hR
      simp [RD, slotOf] at h0
      subst h0
      unfold Oper.wp
      go_simp
      exact ⟨HC.out, trivial, rfl⟩
  case fin =>
    intro a w' hC hB hR
    have s4 := hR 4 (by decide)
    have s5 := hR 5 (by decide)
    obtain ⟨u6, u7, u14, u15, u16, u17, rfl⟩ := hB
    simp [RD, slotOf] at s4 s5
    subst s4 s5
    obtain ⟨hK, hT2, hbl⟩ := hC
    have HT2 := Lib.hid hT2
    have HB := Lib.hid hbl
    clear hR hcp hT2 hbl
    cases o with
    | false =>
      have h1 := ham_odd_no HO.out
      by_cases hp0 : p = 0
      · have HE := Lib.hid (dec_good h1 (HP.out.trans hp0))
        have hcv := hK.conv 8 9 (by rw [HL.out]; omega)
        have H8 := Lib.hid (ext8 s)
        subst hp0
        clear h1 hK
        go_wp2
        go_ret3
        exact ⟨ret_dec (by rw [HE.out]; exact H8.out) (by rw [HE.out]; rfl), HB.out⟩
      · have HE := Lib.hid (dec_bad h1 (fun h => hp0 (HP.out.symm.trans h)))
        have hp0b : ((p : Int) == 0) = false := by simp; omega
        clear h1 hK hp0
        go_wp2
        go_ret3
        exact ⟨ret_dec (by rw [HE.out]; rfl) (by rw [HE.out]; rfl), HB.out⟩
    | true =>
      have h1 := ham_odd_yes HO.out
      by_cases hp71 : 71 < p
      · have HE := Lib.hid (dec_far h1 (by rw [HP.out]; exact hp71))
        have hp71b : decide ((71 : Int) < (p : Int)) = true := by simp; omega
        clear h1 hK hp71
        go_wp2
        go_ret3
        exact ⟨ret_dec (by rw [HE.out]; rfl) (by rw [HE.out]; rfl), HB.out⟩
      · have HE := Lib.hid (dec_fix h1 (by rw [HP.out]; exact hp71))
        have hp71b : decide ((71 : Int) < (p : Int)) = false := by simp; omega
        have H8 := Lib.hid (fix8 s h p)
        obtain ⟨m, hm⟩ : ∃ m, turnL (bs s) p 64 = m := ⟨_, rfl⟩
        have hml : m.length = 9 := by rw [← hm, turnL_length]; exact HL.out
        have HM := Lib.hid hm
        have HML := Lib.hid hml
        rw [hm] at H8
        have hsm := size_ca m hml
        have HK := Lib.hid hK
        have HSZ : Hid ((ca (bs s)).size = (ca m).size) := by rw [ca_size, ca_size, HL.out, hml]; exact rfl
        clear h1 hK hm hml
        go_wp2_with (refine wpList_load_row rfl 75 (.tmp 5) rfl w.heap.size rfl 75 (ca (bs s)) (0, 0) _ HK.out Tryd.underlying75 rfl hs ?_)
        refine (ham_turned (bs s) p _ HL.out (by omega) HT2.out (by have := HB.out.size; omega)).mono ?_
        rintro e w2 ⟨rfl, hb2⟩
        rw [HM.out]
        have HK2 := Lib.hid (HK.out.after hb2)
        have HB2 := Lib.hid (HB.out.trans (hb2.mono HB.out.size))
        have hcv := (HK2.out.put (m := m)).conv 8 9 (by rw [HML.out]; omega)
        clear hb2 hs
        go_wp2_with (refine wpList_store_row rfl 75 (.tmp 5) (.tmp 36) rfl w.heap.size (ca m) rfl rfl 75 (ca (bs s)) HK2.out hsm HSZ.out (ca_one m) ?_)
        go_ret3
        exact ⟨ret_dec (by rw [HE.out, HP.out]; exact H8.out) (by rw [HE.out]; rfl), below_setRow (Nat.le_refl _) _ HB2.out⟩

theorem ham_dec_yes (s : ByteArray) (w : World) (h : s.size = 9) (hT : HamTab w) : Calls Tryd.prog 62 #[.string s] w (DecPost s w) := ham_dec_at s w h hT (cell_lt (hT 0 (by decide)))

end Go.Proofs.YtlacmfacigfioaaDoor

/- Contracts of package crc: More, Sum, Seal, Whole. The table of half bytes lies in a package variable: its cells are a premise. -/
namespace Go.Proofs.YtlacmfacigfioaaDoor
open Go.RowKit

/-- the table of half bytes, as the program's text lays it -/
def CrcTab (w : World) : Prop := ∀ i, i < 16 → w.cell? ⟨2, i, none⟩ = some (.int .u32 ((half i : Nat) : Int))
theorem CrcTab.below {w w' : World} {B : Nat} (h : CrcTab w) (hb : Below B w w') (hB : 2 < B) : CrcTab w' := by
  intro i hi
  rw [hb.cell (p := ⟨2, i, none⟩) hB]; exact h i hi

theorem tab_half : ∀ i, i < 16 → ([0, 498536548, 997073096, 651767980, 1994146192, 1802195444, 1303535960, 1342533948, 3988292384, 4027552580, 3604390888, 3412177804, 2607071920, 2262029012, 2685067896, 3183342108] : List Int).getD i 0 = ((half i : Nat) : Int) := by decide +kernel
theorem crcTab_of {w : World} (h : ∀ i, i < 16 → w.cell? ⟨2, i, none⟩ = some (.int .u32 (([0, 498536548, 997073096, 651767980, 1994146192, 1802195444, 1303535960, 1342533948, 3988292384, 4027552580, 3604390888, 3412177804, 2607071920, 2262029012, 2685067896, 3183342108] : List Int).getD i 0))) : CrcTab w := by
  intro i hi
  rw [h i hi, tab_half i hi]

/-- the state behind so many bytes -/
def moreTo (st : Nat) (s : ByteArray) (k : Nat) : Nat := more st ((bs s).take k)
theorem moreTo_zero (st : Nat) (s : ByteArray) : moreTo st s 0 = st := by unfold moreTo; rw [List.take_zero, more_nil]
theorem moreTo_all (st : Nat) (s : ByteArray) : moreTo st s s.size = more st (bs s) := by
  unfold moreTo; rw [List.take_of_length_le (by rw [bs_length]; omega)]
theorem moreTo_lt (st : Nat) (s : ByteArray) (k : Nat) (h : st < 2 ^ 32) : moreTo st s k < 2 ^ 32 := more_lt _ _ h
theorem moreTo_succ (st : Nat) (s : ByteArray) (k : Nat) (h : k < s.size) : moreTo st s (k + 1) = sN 4 (sN 4 (moreTo st s k ^^^ s[k].toNat)) := by
  unfold moreTo
  rw [List.take_succ_eq_append_getElem (by rw [bs_length]; exact h), more_snoc, ← sN_add]
  rfl
theorem wraps_u32 (n : Int) (h0 : 0 ≤ n) (h1 : n < 2 ^ 32) : IntKind.u32.wrap n = n := by rw [IntKind.wrap_u32]; omega
theorem xor_u32 (a b : Nat) (ha : a < 4294967296) (hb : b < 4294967296) : bits .xor .u32 (a : Int) (b : Int) = ((a ^^^ b : Nat) : Int) := by
  have hx : a ^^^ b < 2 ^ 32 := Nat.xor_lt_two_pow (by omega) (by omega)
  have h1 : (BitVec.ofInt 32 (a : Int)).toNat = a := by
    rw [BitVec.ofInt_natCast, BitVec.toNat_ofNat]; exact Nat.mod_eq_of_lt (by omega)
  have h2 : (BitVec.ofInt 32 (b : Int)).toNat = b := by
    rw [BitVec.ofInt_natCast, BitVec.toNat_ofNat]; exact Nat.mod_eq_of_lt (by omega)
  show IntKind.u32.wrap ((BitVec.ofInt 32 (a : Int) ^^^ BitVec.ofInt 32 (b : Int)).toNat : Int) = _
  rw [BitVec.toNat_xor, h1, h2, IntKind.wrap_u32]
  omega
theorem and_u32_15 (y : Nat) (hy : y < 4294967296) : bits .and .u32 (y : Int) 15 = ((y % 16 : Nat) : Int) := by
  have h := (bits_nat .u32 32 (by decide) wraps_u32 y 15 (by omega) (by decide)).1
  rw [show (15 : Int) = ((15 : Nat) : Int) from rfl, h, show 15 = 2 ^ 4 - 1 from rfl, Nat.and_two_pow_sub_one_eq_mod]
/-- a half byte's step, as the code takes it -/
theorem half_step (y q : Nat) (hy : y < 4294967296) (hq : y % 16 = q) : bits .xor .u32 ((y : Int) / 16) ((half q : Nat) : Int) = ((sN 4 y : Nat) : Int) := by
  subst hq
  have h := xor_u32 (y / 16) (half (y % 16)) (by omega) (sN_lt 4 _ (by omega))
  rw [sN_half, ← h]; rfl

theorem mod_u32 (y : Nat) : (y : Int) % 16 = ((y % 16 : Nat) : Int) := by omega
/-- one half byte's step -/
theorem half_any (y : Nat) (w : World) (hy : y < 4294967296) (hT : CrcTab w) :
    Calls Tryd.prog 97 #[.int .u32 y] w fun e w' => e = .returned (.int .u32 (sN 4 y : Nat)) ∧ w = w' := by
  obtain ⟨q, hq⟩ : ∃ q, y % 16 = q := ⟨_, rfl⟩
  have hq16 : q < 16 := by omega
  have e3 := half_step y q hy hq
  have hcell := hT q hq16
  obtain ⟨u, hu⟩ : ∃ u, half q = u := ⟨_, rfl⟩
  rw [hu] at e3 hcell
  have hq2 : (y : Int) % 16 = (q : Int) := by omega
  have HE := Lib.hid e3
  clear hu hq hT e3
  go_enter Tryd.func97, Tryd.ntmps97
  go_wp2
  go_ret
  exact ⟨ret_int HE.out, rfl⟩

set_option maxRecDepth 100000 in
theorem more_any (st : Nat) (s : ByteArray) (w : World) (hs : st < 4294967296) (hm : s.size ≤ 100000) (hT : CrcTab w) :
    Calls Tryd.prog 91 #[.int .u32 st, .string s] w fun e w' => e = .returned (.int .u32 (more st (bs s) : Nat)) ∧ w = w' := by
  have HT := Lib.hid hT
  have HA := Lib.hid (moreTo_all st s)
  have HL := Lib.hid (fun k => moreTo_lt st s k hs)
  clear hT
  go_enter Tryd.func91, Tryd.ntmps91
  go_wp2
  go_loop [0, 8] (fun x i => ∃ k : Nat, k ≤ s.size ∧ i = .int .i64 k ∧ x = .int .u32 (moreTo st s k : Nat)) (fun _ i => s.size - (intOf i).toNat)
  case atStart => exact ⟨0, Nat.zero_le _, rfl, by rw [moreTo_zero]⟩
  case round =>
    obtain ⟨k, hk, rfl, rfl⟩ := hrel
    by_cases hlt : k < s.size
    · have HS := Lib.hid (moreTo_succ st s k hlt)
      obtain ⟨x, hx⟩ : ∃ x, moreTo st s k = x := ⟨_, rfl⟩
      have hx32 : x < 4294967296 := by rw [← hx]; exact HL.out k
      rw [hx] at HS ⊢
      clear hx
      obtain ⟨c, hc⟩ : ∃ c : Nat, s[k].toNat = c := ⟨_, rfl⟩
      have hc2 : c ≤ 255 := by have : s[k].toNat < 256 := s[k].toNat_lt; omega
      rw [hc] at HS
      obtain ⟨y, hy⟩ : ∃ y, x ^^^ c = y := ⟨_, rfl⟩
      have hy32 : y < 4294967296 := by rw [← hy]; exact Nat.xor_lt_two_pow (n := 32) hx32 (by omega)
      have e1 := xor_u32 x c hx32 (by omega)
      rw [hy] at e1 HS
      clear hy hx32
      go_wp2_with fail
      refine (half_any y _ hy32 HT.out).mono ?_
      rintro e w' ⟨rfl, rfl⟩
      obtain ⟨z, hz⟩ : ∃ z, sN 4 y = z := ⟨_, rfl⟩
      have hz32 : z < 4294967296 := by rw [← hz]; exact sN_lt 4 y hy32
      rw [hz] at HS ⊢
      clear hz
      go_wp2_with fail
      refine (half_any z _ hz32 HT.out).mono ?_
      rintro e w' ⟨rfl, rfl⟩
      rw [← HS.out]
      go_wp2_with fail
      go_round
      case rel => exact ⟨k + 1, by omega, by go_num, rfl⟩
      case measure => simp [intOf]; omega
    · obtain rfl : k = s.size := by omega
      go_wp2
      go_ret
      exact ⟨ret_int (by rw [HA.out]), rfl⟩

theorem sum_xor (l : List UInt8) : bits .xor .u32 IntKind.u32.max ((more ones32 l : Nat) : Int) = ((sumN l : Nat) : Int) := by
  have h := more_lt ones32 l (by decide)
  rw [show IntKind.u32.max = ((ones32 : Nat) : Int) from rfl, xor_u32 _ _ (by decide) h, Nat.xor_comm]; rfl
theorem sum_xor_right (l : List UInt8) : bits .xor .u32 ((more ones32 l : Nat) : Int) 4294967295 = ((sumN l : Nat) : Int) := by
  rw [show (4294967295 : Int) = ((ones32 : Nat) : Int) from rfl, xor_u32 _ _ (more_lt ones32 l (by decide)) (by decide)]; rfl
theorem sum_any (s : ByteArray) (w : World) (hm : s.size ≤ 100000) (hT : CrcTab w) :
    Calls Tryd.prog 78 #[.string s] w fun e w' => e = .returned (.int .u32 (sumN (bs s) : Nat)) ∧ w = w' := by
  have HT := Lib.hid hT
  have HS := Lib.hid (sum_xor_right (bs s))
  clear hT
  go_enter Tryd.func78, Tryd.ntmps78
  go_wp2_with fail
  refine (more_any 4294967295 s _ (by decide) hm HT.out).mono ?_
  rintro e w' ⟨rfl, rfl⟩
  rw [show more 4294967295 (bs s) = more ones32 (bs s) from rfl]
  go_wp2_with fail
  go_ret
  exact ⟨ret_int (by rw [← HS.out]), rfl⟩

theorem conv4 (c0 c1 c2 c3 : Int) (W : World) :
    Sem.run Tryd.prog (convert 45 9 (.slice (some ⟨W.heap.size, 0, none⟩) 4 4)) (W.alloc (.cells #[.int .u8 c0, .int .u8 c1, .int .u8 c2, .int .u8 c3] 99))
      = .ok (.string (strOfNums [c0, c1, c2, c3])) (W.alloc (.cells #[.int .u8 c0, .int .u8 c1, .int .u8 c2, .int .u8 c3] 99)) := by
  refine run_convert_bytes_arg (P := Tryd.prog) _ 45 5 Tryd.underlying45 Tryd.underlying5 W.heap.size 0 4 4 [c0, c1, c2, c3] rfl ?_ 9 Tryd.underlying9
  intro i hi
  rw [Nat.zero_add, World.cell?_alloc_new]
  rcases i with _ | _ | _ | _ | i
  all_goals first | omega | rfl

theorem four_str (N : Nat) (h : N < 2 ^ 32) : strOfNums [(N : Int) % 256, (N : Int) / 256 % 256, (N : Int) / 65536 % 256, (N : Int) / 16777216] = ⟨(tail4 N).toArray⟩ := by
  apply strOfNums_eq
  have e0 : ((N : Int) % 256).toNat = N % 256 := by omega
  have e1 : ((N : Int) / 256 % 256).toNat = N / 256 % 256 := by omega
  have e2 : ((N : Int) / 65536 % 256).toNat = N / 65536 % 256 := by omega
  have e3 : ((N : Int) / 16777216).toNat = N / 16777216 % 256 := by omega
  simp only [List.map, e0, e1, e2, e3, tail4]

set_option maxRecDepth 100000 in
theorem tail_any (s : ByteArray) (w : World) (hm : s.size ≤ 100000) (hT : CrcTab w) :
    Calls Tryd.prog 51 #[.string s] w fun e w' => e = .returned (.string ⟨(tail4 (sumN (bs s))).toArray⟩) ∧ Below w.heap.size w w' := by
  have HT := Lib.hid hT
  have hL := sumN_lt (bs s)
  clear hT
  have hc := fun (c0 c1 c2 c3 : Int) => conv4 c0 c1 c2 c3 w
  go_enter Tryd.func51, Tryd.ntmps51
  go_wp2_with fail
  refine (sum_any s _ hm HT.out).mono ?_
  rintro e w' ⟨rfl, rfl⟩
  obtain ⟨N, hN⟩ : ∃ N, sumN (bs s) = N := ⟨_, rfl⟩
  rw [hN] at hL ⊢
  have estr := four_str N hL
  have HN := Lib.hid hN
  clear hN
  go_wp2_with fail
  go_rounds 5
  go_ret
  exact ⟨by rw [HN.out]; rfl, (Below.refl _ _).alloc (Nat.le_refl _) _⟩

set_option maxRecDepth 100000 in
theorem seal_any (s : ByteArray) (w : World) (hm : s.size ≤ 100000) (hT : CrcTab w) :
    Calls Tryd.prog 25 #[.string s] w fun e w' => e = .returned (.string (sealS s)) ∧ Below w.heap.size w w' := by
  have HT := Lib.hid hT
  clear hT
  go_enter Tryd.func25, Tryd.ntmps25
  go_wp2_with fail
  obtain ⟨t, ht, htz⟩ := tail_str (sumN (bs s))
  refine (tail_any s _ hm HT.out).mono ?_
  rintro e w1 ⟨rfl, hb1⟩
  have HS : Hid (s ++ t = sealS s) := by rw [← ht]; exact seal_cat s
  have HB1 := Lib.hid hb1
  rw [ht]
  clear hb1 ht
  go_wp2_with fail
  go_ret
  exact ⟨by rw [← HS.out]; rfl, HB1.out⟩

end Go.Proofs.YtlacmfacigfioaaDoor

/- The contract of crc's Whole. -/
namespace Go.Proofs.YtlacmfacigfioaaDoor
open Go.RowKit

theorem CrcTab.drew {w : World} (h : CrcTab w) : CrcTab w.drew := h

theorem below_drewN (w : World) (n : Nat) : Below w.heap.size w (w.drewN n) := ⟨rfl, rfl, rfl, Nat.le_refl _, fun _ _ => rfl⟩

/-- a text ends with its own sum's bytes just if it is the sealed text of what is ahead of them -/
theorem whole_tail (s : ByteArray) (h : 4 ≤ s.size) : wholeB s = ((s.extract (s.size - 4) s.size).toList == tail4 (sumN (bs (s.extract 0 (s.size - 4))))) := by
  rw [show tail4 (sumN (bs (s.extract 0 (s.size - 4)))) = (⟨(tail4 (sumN (bs (s.extract 0 (s.size - 4))))).toArray⟩ : ByteArray).toList from by rw [ByteArray.toList_eq]]
  rw [whole_long s h]
  have e : s.toList = (s.extract 0 (s.size - 4)).toList ++ (s.extract (s.size - 4) s.size).toList := by
    rw [ByteArray.toList_eq, ByteArray.toList_eq, ByteArray.toList_eq, ByteArray.data_extract, ByteArray.data_extract]
    have h2 : s.data.size = s.size := rfl
    simp only [Array.toList_extract, List.extract_eq_take_drop, List.drop_zero, Nat.sub_zero]
    rw [show s.size - (s.size - 4) = 4 by omega]
    have h4 : (List.drop (s.size - 4) s.data.toList).take 4 = List.drop (s.size - 4) s.data.toList := List.take_of_length_le (by rw [List.length_drop, Array.length_toList]; omega)
    rw [h4, List.take_append_drop]
  have e2 : (sealS (s.extract 0 (s.size - 4))).toList = (s.extract 0 (s.size - 4)).toList ++ (⟨(tail4 (sumN (bs (s.extract 0 (s.size - 4))))).toArray⟩ : ByteArray).toList := by
    rw [ByteArray.toList_eq, ByteArray.toList_eq, ByteArray.toList_eq]
    rfl
  rw [e, e2]
  generalize (s.extract 0 (s.size - 4)).toList = x
  generalize (s.extract (s.size - 4) s.size).toList = y
  generalize (⟨(tail4 (sumN (bs (s.extract 0 (s.size - 4))))).toArray⟩ : ByteArray).toList = z
  rw [Bool.eq_iff_iff, beq_iff_eq, beq_iff_eq, List.append_cancel_left_eq]
  exact eq_comm

set_option maxHeartbeats 2000000 in
set_option maxRecDepth 100000 in
theorem whole_any (s : ByteArray) (w : World) (hm : s.size ≤ 100000) (hT : CrcTab w) :
    Calls Tryd.prog 63 #[.string s] w fun e w' => e = .returned (.bool (wholeB s)) ∧ Below w.heap.size w w' := by
  have HT := Lib.hid hT
  clear hT
  by_cases h : 4 ≤ s.size
  · have HW := Lib.hid (whole_tail s h)
    have hx : (s.extract 0 (s.size - 4)).size ≤ 100000 := by rw [ByteArray.size_extract]; omega
    go_enter Tryd.func63, Tryd.ntmps63
    have hd : (4 : Int) ≤ (s.size : Int) := by omega
    have htn : ((s.size : Int) - 4).toNat = s.size - 4 := by omega
    go_wp2_with fail
    go_region_with (go_at_call 51; refine (tail_any _ w.drew hx (CrcTab.drew HT.out)).mono ?_; rintro e w1 ⟨rfl, hb1⟩)
    all_goals go_wp2_with fail
    all_goals go_ret
    all_goals exact ⟨ret_bool HW.out.symm, (Below.refl _ _).drew.trans hb1⟩
  · have HW := Lib.hid (whole_short s h)
    go_enter Tryd.func63, Tryd.ntmps63
    have hd : decide ((4 : Int) ≤ (s.size : Int)) = false := by simp; omega
    go_wp2
    go_quiet (fail)
    go_wp2
    go_ret
    exact ⟨ret_bool HW.out.symm, below_drewN _ _⟩

end Go.Proofs.YtlacmfacigfioaaDoor

/- Both package tables of layer 5's laws. -/
namespace Go.Proofs.YtlacmfacigfioaaDoor
set_option maxRecDepth 100000
open Go.RowKit

/-- both tables -/
def Tabs (w : World) : Prop := HamTab w ∧ CrcTab w
theorem Tabs.after {w w' : World} (h : Tabs w) (hb : Below w.heap.size w w') : Tabs w' :=
  ⟨h.1.below hb (cell_lt (h.1 0 (by decide))), h.2.below hb (cell_lt (h.2 0 (by decide)))⟩

end Go.Proofs.YtlacmfacigfioaaDoor

/- Contracts of package bits, as far as later layers lean on them: Put of a number that fits, Get. -/
namespace Go.Proofs.YtlacmfacigfioaaDoor
open Go.RowKit

theorem conv8 (c0 c1 c2 c3 c4 c5 c6 c7 : Int) (W : World) (n : Nat) (hn : n ≤ 8) :
    Sem.run Tryd.prog (convert 45 9 (.slice (some ⟨W.heap.size, 0, none⟩) n 8)) (W.alloc (.cells #[.int .u8 c0, .int .u8 c1, .int .u8 c2, .int .u8 c3, .int .u8 c4, .int .u8 c5, .int .u8 c6, .int .u8 c7] 110))
      = .ok (.string (strOfNums ([c0, c1, c2, c3, c4, c5, c6, c7].take n))) (W.alloc (.cells #[.int .u8 c0, .int .u8 c1, .int .u8 c2, .int .u8 c3, .int .u8 c4, .int .u8 c5, .int .u8 c6, .int .u8 c7] 110)) := by
  refine run_convert_bytes_arg (P := Tryd.prog) _ 45 5 Tryd.underlying45 Tryd.underlying5 W.heap.size 0 n 8 ([c0, c1, c2, c3, c4, c5, c6, c7].take n) (by simp; omega) ?_ 9 Tryd.underlying9
  intro i hi
  rw [Nat.zero_add, World.cell?_alloc_new]
  have h8 : i < 8 := by omega
  rcases i with _ | _ | _ | _ | _ | _ | _ | _ | i
  all_goals first | omega | simp [List.getD, hi]

theorem str_1 (v : Int) (v0 : 0 ≤ v) (v1 : v < 256) : strOfNums [v] = leS v 1 := by
  have l : v % 256 = v := by omega
  unfold strOfNums leS
  simp only [le, List.map, l]

theorem str_2 (v : Int) (v0 : 0 ≤ v) (v1 : v < 65536) : strOfNums [v % 256, v / 256] = leS v 2 := by
  have l : v / 256 % 256 = v / 256 := by omega
  unfold strOfNums leS
  simp only [le, List.map, l]

theorem str_3 (v : Int) (v0 : 0 ≤ v) (v1 : v < 16777216) : strOfNums [v % 256, v / 256 % 256, v / 65536] = leS v 3 := by
  have e2 : v / 256 / 256 = v / 65536 := by omega
  have l : v / 65536 % 256 = v / 65536 := by omega
  unfold strOfNums leS
  simp only [le, List.map, e2, l]

theorem str_4 (v : Int) (v0 : 0 ≤ v) (v1 : v < 4294967296) : strOfNums [v % 256, v / 256 % 256, v / 65536 % 256, v / 16777216] = leS v 4 := by
  have e2 : v / 256 / 256 = v / 65536 := by omega
  have e3 : v / 65536 / 256 = v / 16777216 := by omega
  have l : v / 16777216 % 256 = v / 16777216 := by omega
  unfold strOfNums leS
  simp only [le, List.map, e2, e3, l]

theorem str_5 (v : Int) (v0 : 0 ≤ v) (v1 : v < 1099511627776) : strOfNums [v % 256, v / 256 % 256, v / 65536 % 256, v / 16777216 % 256, v / 4294967296] = leS v 5 := by
  have e2 : v / 256 / 256 = v / 65536 := by omega
  have e3 : v / 65536 / 256 = v / 16777216 := by omega
  have e4 : v / 16777216 / 256 = v / 4294967296 := by omega
  have l : v / 4294967296 % 256 = v / 4294967296 := by omega
  unfold strOfNums leS
  simp only [le, List.map, e2, e3, e4, l]

theorem str_6 (v : Int) (v0 : 0 ≤ v) (v1 : v < 281474976710656) : strOfNums [v % 256, v / 256 % 256, v / 65536 % 256, v / 16777216 % 256, v / 4294967296 % 256, v / 1099511627776] = leS v 6 := by
  have e2 : v / 256 / 256 = v / 65536 := by omega
  have e3 : v / 65536 / 256 = v / 16777216 := by omega
  have e4 : v / 16777216 / 256 = v / 4294967296 := by omega
  have e5 : v / 4294967296 / 256 = v / 1099511627776 := by omega
  have l : v / 1099511627776 % 256 = v / 1099511627776 := by omega
  unfold strOfNums leS
  simp only [le, List.map, e2, e3, e4, e5, l]

theorem str_7 (v : Int) (v0 : 0 ≤ v) (v1 : v < 72057594037927936) : strOfNums [v % 256, v / 256 % 256, v / 65536 % 256, v / 16777216 % 256, v / 4294967296 % 256, v / 1099511627776 % 256, v / 281474976710656] = leS v 7 := by
  have e2 : v / 256 / 256 = v / 65536 := by omega
  have e3 : v / 65536 / 256 = v / 16777216 := by omega
  have e4 : v / 16777216 / 256 = v / 4294967296 := by omega
  have e5 : v / 4294967296 / 256 = v / 1099511627776 := by omega
  have e6 : v / 1099511627776 / 256 = v / 281474976710656 := by omega
  have l : v / 281474976710656 % 256 = v / 281474976710656 := by omega
  unfold strOfNums leS
  simp only [le, List.map, e2, e3, e4, e5, e6, l]

theorem str_8 (v : Int) (v0 : 0 ≤ v) (v1 : v < 18446744073709551616) : strOfNums [v % 256, v / 256 % 256, v / 65536 % 256, v / 16777216 % 256, v / 4294967296 % 256, v / 1099511627776 % 256, v / 281474976710656 % 256, v / 72057594037927936] = leS v 8 := by
  have e2 : v / 256 / 256 = v / 65536 := by omega
  have e3 : v / 65536 / 256 = v / 16777216 := by omega
  have e4 : v / 16777216 / 256 = v / 4294967296 := by omega
  have e5 : v / 4294967296 / 256 = v / 1099511627776 := by omega
  have e6 : v / 1099511627776 / 256 = v / 281474976710656 := by omega
  have e7 : v / 281474976710656 / 256 = v / 72057594037927936 := by omega
  have l : v / 72057594037927936 % 256 = v / 72057594037927936 := by omega
  unfold strOfNums leS
  simp only [le, List.map, e2, e3, e4, e5, e6, e7, l]

set_option maxRecDepth 100000 in
theorem put_1 (v : Int) (w : World) (v0 : 0 ≤ v) (v1 : v < 256) :
    Calls Tryd.prog 75 #[.int .u64 v, .int .i64 1] w fun e w' => e = .returned (.tuple #[.string (leS v 1), .int .i64 0]) ∧ Below w.heap.size w w' := by
  have hc := fun (c0 c1 c2 c3 c4 c5 c6 c7 : Int) => conv8 c0 c1 c2 c3 c4 c5 c6 c7 w 1 (by decide)
  go_enter Tryd.func75, Tryd.ntmps75
  go_wp2
  go_rounds 2
  go_ret2
  exact ⟨ret_str (str_1 v v0 v1), (Below.refl _ _).alloc (Nat.le_refl _) _⟩

set_option maxRecDepth 100000 in
theorem put_2 (v : Int) (w : World) (v0 : 0 ≤ v) (v1 : v < 65536) :
    Calls Tryd.prog 75 #[.int .u64 v, .int .i64 2] w fun e w' => e = .returned (.tuple #[.string (leS v 2), .int .i64 0]) ∧ Below w.heap.size w w' := by
  have hc := fun (c0 c1 c2 c3 c4 c5 c6 c7 : Int) => conv8 c0 c1 c2 c3 c4 c5 c6 c7 w 2 (by decide)
  go_enter Tryd.func75, Tryd.ntmps75
  go_wp2
  go_rounds 3
  go_ret2
  exact ⟨ret_str (str_2 v v0 v1), (Below.refl _ _).alloc (Nat.le_refl _) _⟩

set_option maxRecDepth 100000 in
theorem put_3 (v : Int) (w : World) (v0 : 0 ≤ v) (v1 : v < 16777216) :
    Calls Tryd.prog 75 #[.int .u64 v, .int .i64 3] w fun e w' => e = .returned (.tuple #[.string (leS v 3), .int .i64 0]) ∧ Below w.heap.size w w' := by
  have hc := fun (c0 c1 c2 c3 c4 c5 c6 c7 : Int) => conv8 c0 c1 c2 c3 c4 c5 c6 c7 w 3 (by decide)
  go_enter Tryd.func75, Tryd.ntmps75
  go_wp2
  go_rounds 4
  go_ret2
  exact ⟨ret_str (str_3 v v0 v1), (Below.refl _ _).alloc (Nat.le_refl _) _⟩

set_option maxRecDepth 100000 in
theorem put_4 (v : Int) (w : World) (v0 : 0 ≤ v) (v1 : v < 4294967296) :
    Calls Tryd.prog 75 #[.int .u64 v, .int .i64 4] w fun e w' => e = .returned (.tuple #[.string (leS v 4), .int .i64 0]) ∧ Below w.heap.size w w' := by
  have hc := fun (c0 c1 c2 c3 c4 c5 c6 c7 : Int) => conv8 c0 c1 c2 c3 c4 c5 c6 c7 w 4 (by decide)
  go_enter Tryd.func75, Tryd.ntmps75
  go_wp2
  go_rounds 5
  go_ret2
  exact ⟨ret_str (str_4 v v0 v1), (Below.refl _ _).alloc (Nat.le_refl _) _⟩

set_option maxRecDepth 100000 in
theorem put_5 (v : Int) (w : World) (v0 : 0 ≤ v) (v1 : v < 1099511627776) :
    Calls Tryd.prog 75 #[.int .u64 v, .int .i64 5] w fun e w' => e = .returned (.tuple #[.string (leS v 5), .int .i64 0]) ∧ Below w.heap.size w w' := by
  have hc := fun (c0 c1 c2 c3 c4 c5 c6 c7 : Int) => conv8 c0 c1 c2 c3 c4 c5 c6 c7 w 5 (by decide)
  go_enter Tryd.func75, Tryd.ntmps75
  go_wp2
  go_rounds 6
  go_ret2
  exact ⟨ret_str (str_5 v v0 v1), (Below.refl _ _).alloc (Nat.le_refl _) _⟩

set_option maxRecDepth 100000 in
theorem put_6 (v : Int) (w : World) (v0 : 0 ≤ v) (v1 : v < 281474976710656) :
    Calls Tryd.prog 75 #[.int .u64 v, .int .i64 6] w fun e w' => e = .returned (.tuple #[.string (leS v 6), .int .i64 0]) ∧ Below w.heap.size w w' := by
  have hc := fun (c0 c1 c2 c3 c4 c5 c6 c7 : Int) => conv8 c0 c1 c2 c3 c4 c5 c6 c7 w 6 (by decide)
  go_enter Tryd.func75, Tryd.ntmps75
  go_wp2
  go_rounds 7
  go_ret2
  exact ⟨ret_str (str_6 v v0 v1), (Below.refl _ _).alloc (Nat.le_refl _) _⟩

set_option maxRecDepth 100000 in
theorem put_7 (v : Int) (w : World) (v0 : 0 ≤ v) (v1 : v < 72057594037927936) :
    Calls Tryd.prog 75 #[.int .u64 v, .int .i64 7] w fun e w' => e = .returned (.tuple #[.string (leS v 7), .int .i64 0]) ∧ Below w.heap.size w w' := by
  have hc := fun (c0 c1 c2 c3 c4 c5 c6 c7 : Int) => conv8 c0 c1 c2 c3 c4 c5 c6 c7 w 7 (by decide)
  go_enter Tryd.func75, Tryd.ntmps75
  go_wp2
  go_rounds 8
  go_ret2
  exact ⟨ret_str (str_7 v v0 v1), (Below.refl _ _).alloc (Nat.le_refl _) _⟩

set_option maxRecDepth 100000 in
theorem put_8 (v : Int) (w : World) (v0 : 0 ≤ v) (v1 : v < 18446744073709551616) :
    Calls Tryd.prog 75 #[.int .u64 v, .int .i64 8] w fun e w' => e = .returned (.tuple #[.string (leS v 8), .int .i64 0]) ∧ Below w.heap.size w w' := by
  have hc := fun (c0 c1 c2 c3 c4 c5 c6 c7 : Int) => conv8 c0 c1 c2 c3 c4 c5 c6 c7 w 8 (by decide)
  go_enter Tryd.func75, Tryd.ntmps75
  go_wp2
  go_rounds 9
  go_ret2
  exact ⟨ret_str (str_8 v v0 v1), (Below.refl _ _).alloc (Nat.le_refl _) _⟩

theorem or_addr (x y : Int) (a : Nat) (ha : a ≤ 64) (hy : y % p2 a = 0) (hy0 : 0 ≤ y) (hy1 : y < p2 64) (hx0 : 0 ≤ x) (hx1 : x < p2 a) : bits .or .u64 x y = x + y := by
  have hle := p2_le ha
  have h := or_add y x a ha hy hy0 hy1 hx0 hx1
  have h64 := p2_64
  obtain ⟨x, rfl⟩ := Int.eq_ofNat_of_zero_le hx0
  obtain ⟨y, rfl⟩ := Int.eq_ofNat_of_zero_le hy0
  rw [bits_or_u64_nat y x (by omega) (by omega)] at h
  rw [bits_or_u64_nat x y (by omega) (by omega), Nat.or_comm, h]; omega
theorem get_step (s : ByteArray) (k : Nat) (h : k < s.size) (hs : k < 8) :
    bits .or .u64 (numTo s k) (IntKind.u64.wrap (IntKind.u64.wrap (s[k].toNat : Int) * p2 (8 * k))) = numTo s (k + 1) := by
  have hb := numTo_bd s k (by omega)
  have hr := byte_room s[k] k hs
  rw [wrap_byte, wrap_lo, lo_all _ 64 hr.2 hr.1, or_addr _ _ (8 * k) (by omega) (Int.mul_emod_left _ _) hr.2 hr.1 hb.1 hb.2, numTo_succ s k h]

theorem get_yes (s : ByteArray) (w : World) (h1 : 1 ≤ s.size) (h2 : s.size ≤ 8) :
    Calls Tryd.prog 96 #[.string s] w fun e w' => e = .returned (.tuple #[.int .u64 (numS s), .int .i64 0]) ∧ w = w' := by
  go_enter Tryd.func96, Tryd.ntmps96
  go_wp2
  go_loop [4, 16] (fun t i => ∃ k : Nat, k ≤ s.size ∧ i = .int .i64 k ∧ t = .int .u64 (numTo s k)) (fun _ i => s.size - (intOf i).toNat)
  case atStart => exact ⟨0, Nat.zero_le _, rfl, by rw [numTo_zero]⟩
  case round =>
    obtain ⟨k, hk, rfl, rfl⟩ := hrel
    by_cases hlt : k < s.size
    · have HG := Lib.hid (get_step s k hlt (by omega))
      go_wp2
      go_round
      case rel => exact ⟨k + 1, by omega, by go_num, by rw [← HG.out]; rfl⟩
      case measure => simp [intOf]; omega
    · obtain rfl : k = s.size := by omega
      go_wp2
      go_ret2
      exact ⟨rfl, rfl⟩

theorem put_fit (v : Int) (n : Nat) (w : World) (h1 : 1 ≤ n) (h2 : n ≤ 8) (v0 : 0 ≤ v) (hv : v < p2 (8 * n)) :
    Calls Tryd.prog 75 #[.int .u64 v, .int .i64 n] w fun e w' => e = .returned (.tuple #[.string (leS v n), .int .i64 0]) ∧ Below w.heap.size w w' := by
  obtain rfl | rfl | rfl | rfl | rfl | rfl | rfl | rfl : n = 1 ∨ n = 2 ∨ n = 3 ∨ n = 4 ∨ n = 5 ∨ n = 6 ∨ n = 7 ∨ n = 8 := by omega
  · exact put_1 v w v0 (by rw [show p2 (8 * 1) = 256 by decide] at hv; exact hv)
  · exact put_2 v w v0 (by rw [show p2 (8 * 2) = 65536 by decide] at hv; exact hv)
  · exact put_3 v w v0 (by rw [show p2 (8 * 3) = 16777216 by decide] at hv; exact hv)
  · exact put_4 v w v0 (by rw [show p2 (8 * 4) = 4294967296 by decide] at hv; exact hv)
  · exact put_5 v w v0 (by rw [show p2 (8 * 5) = 1099511627776 by decide] at hv; exact hv)
  · exact put_6 v w v0 (by rw [show p2 (8 * 6) = 281474976710656 by decide] at hv; exact hv)
  · exact put_7 v w v0 (by rw [show p2 (8 * 7) = 72057594037927936 by decide] at hv; exact hv)
  · exact put_8 v w v0 (by rw [show p2 (8 * 8) = 18446744073709551616 by decide] at hv; exact hv)

end Go.Proofs.YtlacmfacigfioaaDoor

/- Package tag, walked: May, get, put; what put leaves in the block that it fills. -/
namespace Go.Proofs.YtlacmfacigfioaaDoor
open Go.RowKit

/-- bytes as cells -/
def tca (l : List UInt8) : Array Value := (Lib.byteCells l).toArray
theorem tca_size (l : List UInt8) : (tca l).size = l.length := by simp [tca, Lib.byteCells]
/-- bytes laid over others, from a place on -/
def layL (l : List UInt8) (o : Nat) (m : List UInt8) : List UInt8 := l.take o ++ m ++ l.drop (o + m.length)
theorem tca_lay (l : List UInt8) (o : Nat) (m : List UInt8) : ((tca l).toList.take o ++ Lib.byteCells m ++ (tca l).toList.drop (o + m.length)).toArray = tca (layL l o m) := by
  simp [tca, layL, Lib.byteCells, List.map_append, List.map_take, List.map_drop]
theorem layL_length (l : List UInt8) (o : Nat) (m : List UInt8) (h : o + m.length ≤ l.length) : (layL l o m).length = l.length := by
  simp [layL]; omega

/-- copy of a text over a piece of a block of bytes -/
theorem copy_lay (g o n cap : Nat) (l : List UInt8) (t : TypeId) (w : World) (s : ByteArray) (ty : TypeId) (h : Blk w g (tca l) t) (hs : s.size ≤ n) (hf : o + s.size ≤ l.length) :
    Sem.run Tryd.prog (Builtin.copy_ #[45, 9] ty #[.slice (some ⟨g, o, none⟩) n cap, .string s]) w = .ok (goInt s.size) (w.setRow g (tca (layL l o (bs s)))) := by
  obtain ⟨i0, hi, hz0, hz1, hz2⟩ := info_parts Tryd.infoU8
  have e := Lib.run_copy_row_string (P := Tryd.prog) w 45 9 ty 5 g o n cap s (tca l) t Tryd.underlying45 (by rw [hi]; simp [hz1]) h hs (by rw [tca_size]; exact hf)
  have hl := tca_lay l o (bs s)
  rw [bs_length] at hl
  rw [e]
  unfold bs at hl ⊢
  rw [hl]

theorem tag_kind (k : Int) (w : World) : Calls Tryd.prog 73 #[.int .i64 k] w fun r w' => r = .returned (.bool (decide (1 ≤ k ∧ k ≤ 4))) ∧ w = w' := by
  go_enter Tryd.func73, Tryd.ntmps73
  go_wp2
  all_goals go_ret
  all_goals exact ⟨ret_bool (by rw [Bool.eq_iff_iff]; simp only [beq_iff_eq, beq_eq_false_iff_ne, ne_eq, decide_eq_true_eq, true_iff, false_iff, Bool.false_eq_true] at *; omega), rfl⟩
theorem tag_upto (v m : Int) (w : World) : Calls Tryd.prog 74 #[.int .i64 v, .int .i64 m] w fun r w' => r = .returned (.bool (decide (0 ≤ v ∧ v ≤ m))) ∧ w = w' := by
  go_enter Tryd.func74, Tryd.ntmps74
  go_wp2
  all_goals go_ret
  all_goals exact ⟨ret_bool (by rw [Bool.eq_iff_iff]; simp; try omega), rfl⟩

theorem tag_get (s : ByteArray) (w : World) (h1 : 1 ≤ s.size) (h2 : s.size ≤ 6) :
    Calls Tryd.prog 85 #[.string s] w fun r w' => r = .returned (.int .i64 (numS s)) ∧ w = w' := by
  have hn : 0 ≤ numS s ∧ numS s < 9223372036854775807 := by
    have h := numTo_bd s s.size (Nat.le_refl _)
    have h3 : p2 (8 * s.size) ≤ p2 48 := p2_le (by omega)
    have h4 : p2 48 = 281474976710656 := by decide
    unfold numS; omega
  obtain ⟨x, hx⟩ : ∃ x, numS s = x := ⟨_, rfl⟩
  have HX := Lib.hid hx
  rw [hx] at hn ⊢
  clear hx
  go_enter Tryd.func85, Tryd.ntmps85
  go_wp2_with fail
  refine (get_yes s _ h1 (by omega)).mono ?_
  rintro r w1 ⟨rfl, rfl⟩
  rw [HX.out]
  go_wp2_with fail
  go_ret
  exact ⟨rfl, rfl⟩

/-- what put leaves: the block filled anew, nothing else -/
def PutT (g : Nat) (cs : Array Value) (w : World) (r : Ending) (w' : World) : Prop := r = .returned (.tuple #[]) ∧ ∃ w1, Below w.heap.size w w1 ∧ w' = w1.setRow g cs
theorem tag_put (g o n cap : Nat) (v : Int) (l : List UInt8) (t : TypeId) (w : World) (h : Blk w g (tca l) t) (h1 : 1 ≤ n) (h2 : n ≤ 8) (v0 : 0 ≤ v) (v1 : v ≤ 9223372036854775807) (v2 : v < p2 (8 * n)) (hf : o + n ≤ l.length) :
    Calls Tryd.prog 47 #[.slice (some ⟨g, o, none⟩) n cap, .int .i64 v] w (PutT g (tca (layL l o (bs (leS v n)))) w) := by
  have hw : IntKind.u64.wrap v = v := by rw [IntKind.wrap_u64]; omega
  have HV := Lib.hid v2
  have HB := Lib.hid h
  clear v2 h
  go_enter Tryd.func47, Tryd.ntmps47
  go_wp2_with fail
  refine (put_fit v n _ h1 h2 v0 HV.out).mono ?_
  rintro r w1 ⟨rfl, hb1⟩
  have hz := leS_size v n
  have hcp := fun ty => copy_lay g o n cap l t w1 (leS v n) ty (HB.out.after hb1) (by omega) (by omega)
  have HB1 := Lib.hid hb1
  clear hb1 HB
  obtain ⟨S, hS⟩ : ∃ S, leS v n = S := ⟨_, rfl⟩
  rw [hS] at hcp hz ⊢
  have HS := Lib.hid hS
  clear hS
  go_wp2_with fail
  go_end0
  exact ⟨rfl, _, HB1.out, by rw [HS.out]⟩

theorem may_split (k l q e : Int) : mayB k l q e = (decide (1 ≤ k ∧ k ≤ 4) && decide (0 ≤ l ∧ l ≤ 4096) && decide (0 ≤ q ∧ q ≤ 281474976710655) && decide (0 ≤ e ∧ e ≤ 4294967295)) := by
  rw [Bool.eq_iff_iff, mayB_iff]
  unfold MayT
  simp [and_assoc]

set_option maxRecDepth 100000 in
theorem tag_may (k l q e : Int) (w : World) : Calls Tryd.prog 46 #[.agg (ta k l q e)] w (MayPost k l q e w) := by
  unfold MayPost
  rw [may_split]
  obtain ⟨b1, e1⟩ : ∃ b, decide (1 ≤ k ∧ k ≤ 4) = b := ⟨_, rfl⟩
  obtain ⟨b2, e2⟩ : ∃ b, decide (0 ≤ l ∧ l ≤ 4096) = b := ⟨_, rfl⟩
  obtain ⟨b3, e3⟩ : ∃ b, decide (0 ≤ q ∧ q ≤ 281474976710655) = b := ⟨_, rfl⟩
  obtain ⟨b4, e4⟩ : ∃ b, decide (0 ≤ e ∧ e ≤ 4294967295) = b := ⟨_, rfl⟩
  rw [e1, e2, e3, e4]
  have H1 := Lib.hid e1; have H2 := Lib.hid e2; have H3 := Lib.hid e3; have H4 := Lib.hid e4
  clear e1 e2 e3 e4
  unfold ta
  go_enter Tryd.func46, Tryd.ntmps46
  go_wp2_with fail
  refine (tag_kind k _).mono ?_
  rintro r w1 ⟨rfl, rfl⟩
  rw [H1.out]
  cases b1
  · go_wp2_with fail
    go_ret
    exact ⟨rfl, (Below.refl _ _).alloc (Nat.le_refl _) _⟩
  go_wp2_with fail
  refine (tag_upto l 4096 _).mono ?_
  rintro r w1 ⟨rfl, rfl⟩
  rw [H2.out]
  cases b2
  · go_wp2_with fail
    go_ret
    exact ⟨rfl, (Below.refl _ _).alloc (Nat.le_refl _) _⟩
  go_wp2_with fail
  refine (tag_upto q 281474976710655 _).mono ?_
  rintro r w1 ⟨rfl, rfl⟩
  rw [H3.out]
  cases b3
  · go_wp2_with fail
    go_ret
    exact ⟨rfl, (Below.refl _ _).alloc (Nat.le_refl _) _⟩
  go_wp2_with fail
  refine (tag_upto e 4294967295 _).mono ?_
  rintro r w1 ⟨rfl, rfl⟩
  rw [H4.out]
  go_wp2_with fail
  go_ret
  exact ⟨by cases b4 <;> rfl, (Below.refl _ _).alloc (Nat.le_refl _) _⟩

end Go.Proofs.YtlacmfacigfioaaDoor

/- Package tag, walked: Encode. -/
namespace Go.Proofs.YtlacmfacigfioaaDoor
set_option maxRecDepth 100000
open Go.RowKit

theorem size_a16 : (Tryd.prog.info? 72).map (·.size) = some 16 := by kernel_rfl
/-- the array's block, whole, and the tag's copy -/
def EncW (k l q e : Int) (g : Nat) (L : List UInt8) (w0 w : World) : Prop := Blk w g (tca L) 72 ∧ KT k l q e w0 w ∧ w0.heap.size < g
theorem EncW.drew {k l q e : Int} {g : Nat} {L : List UInt8} {w0 w : World} (h : EncW k l q e g L w0 w) : EncW k l q e g L w0 w.drew := ⟨h.1.drew, h.2.1.drew, h.2.2⟩
theorem KT.put {k l q e : Int} {w0 w : World} (h : KT k l q e w0 w) {g : Nat} (hg : w0.heap.size < g) (cs : Array Value) : KT k l q e w0 (w.setRow g cs) := by
  have hc : ∀ i, (w.setRow g cs).cell? ⟨w0.heap.size, i, none⟩ = w.cell? ⟨w0.heap.size, i, none⟩ := by
    intro i
    simp only [World.cell?, World.setRow, Array.getElem?_modify]
    rw [if_neg (by omega)]
  exact ⟨(hc 0).trans h.1, (hc 1).trans h.2.1, (hc 2).trans h.2.2.1, (hc 3).trans h.2.2.2.1, below_put (by omega) _ h.2.2.2.2⟩
theorem EncW.put {k l q e : Int} {g : Nat} {L L' : List UInt8} {w0 w w1 : World} (h : EncW k l q e g L w0 w) (hb : Below w.heap.size w w1) : EncW k l q e g L' w0 (w1.setRow g (tca L')) :=
  ⟨(h.1.after hb).put _, (h.2.1.call hb).put h.2.2 _, h.2.2⟩

/-- a block of bytes, as a text -/
theorem conv_tca {w : World} {g : Nat} {L : List UInt8} {t : TypeId} (h : Blk w g (tca L) t) (n cap : Nat) (hn : L.length = n) :
    Sem.run Tryd.prog (convert 45 9 (.slice (some ⟨g, 0, none⟩) n cap)) w = .ok (.string ⟨L.toArray⟩) w := by
  have hr := run_convert_bytes_arg (P := Tryd.prog) w 45 5 Tryd.underlying45 Tryd.underlying5 g 0 n cap (L.map fun c => (c.toNat : Int)) (by simp; omega) (by
    intro i hi
    have h3 : i < L.length := by omega
    rw [Nat.zero_add, h.cell i]
    simp [List.getD, h3, tca, Lib.byteCells]) 9 Tryd.underlying9
  rw [hr]
  congr 2
  apply strOfNums_eq
  rw [List.map_map]
  have e : ((fun n : Int => UInt8.ofNat n.toNat) ∘ fun b : UInt8 => (b.toNat : Int)) = id := by funext b; simp
  rw [e, List.map_id]

def encL0 : List UInt8 := [27, 0, 0, 0, 0, 0, 0, 0, 0, 0, 0, 0, 0, 0, 0, 0]
theorem enc_start (w : World) : Blk ((w.alloc (.cells #[.int .u8 0, .int .u8 0, .int .u8 0, .int .u8 0, .int .u8 0, .int .u8 0, .int .u8 0, .int .u8 0, .int .u8 0, .int .u8 0, .int .u8 0, .int .u8 0, .int .u8 0, .int .u8 0, .int .u8 0, .int .u8 0] 72)).setCell ⟨w.heap.size, 0, none⟩ (.int .u8 27)) w.heap.size (tca encL0) 72 :=
  (Blk.new w _ _).set 0 _ rfl
theorem enc_end (k l q e : Int) (h : MayT k l q e) : (⟨(layL (layL (layL (layL (layL encL0 1 (bs (leS k 1))) 2 (bs (leS l 2))) 4 (bs (leS q 6))) 10 (bs (leS e 4))) 14 (bs ⟨#[0, 0]⟩)).toArray⟩ : ByteArray) = tagS k l q e := by
  have e1 : bs (leS k 1) = [UInt8.ofNat k.toNat] := by
    obtain ⟨h1, h2, _⟩ := h
    have : k % 256 = k := by omega
    show [UInt8.ofNat (k % 256).toNat] = _
    rw [this]
  rw [e1]
  rfl

set_option maxRecDepth 100000 in
theorem tag_enc_yes (k l q e : Int) (w : World) (hm : MayT k l q e) : Calls Tryd.prog 21 #[.agg (ta k l q e)] w fun r w' => r = .returned (.tuple #[.string (tagS k l q e), .int .i64 0]) ∧ Below w.heap.size w w' := by
  have HB : Hid (mayB k l q e = true) := (mayB_iff k l q e).2 hm
  have HE := Lib.hid (enc_end k l q e hm)
  obtain ⟨h1, h2, h3, h4, h5, h6, h7, h8⟩ := hm
  have b1 : k < p2 (8 * 1) := by rw [show p2 (8 * 1) = 256 by decide]; omega
  have b2 : l < p2 (8 * 2) := by rw [show p2 (8 * 2) = 65536 by decide]; omega
  have b6 : q < p2 (8 * 6) := by rw [show p2 (8 * 6) = 281474976710656 by decide]; omega
  have b4 : e < p2 (8 * 4) := by rw [show p2 (8 * 4) = 4294967296 by decide]; omega
  have HN := Lib.hid (And.intro b1 (And.intro b2 (And.intro b6 b4)))
  clear b1 b2 b6 b4
  have hK := KT.first k l q e w 23
  go_enter Tryd.func21, Tryd.ntmps21
  go_wp2_with (refine wpList_load_row rfl 23 (.tmp 1) rfl w.heap.size rfl 23 (ta k l q e) (0, 0) _ (Blk.new w (ta k l q e) 23) Tryd.underlying23 rfl size_tag ?_)
  refine (tag_may k l q e _).mono ?_
  rintro r w1 ⟨rfl, hb1⟩
  have hK1 := hK.call hb1
  rw [HB.out]
  clear hK
  go_wp2_with fail
  have hE : EncW k l q e w1.heap.size encL0 w (w1.alloc (.cells (tca encL0) 72)) := ⟨Blk.new _ _ _, hK1.alloc _, cell_lt hK1.1⟩
  change Code.wp _ _ _ _ (w1.alloc (.cells (tca encL0) 72))
  generalize (w1.alloc (.cells (tca encL0) 72)) = w2 at hE ⊢
  generalize w1.heap.size = g at hE ⊢
  clear hb1 hK1
  obtain ⟨c0, c1, c2, c3, _⟩ := hE.2.1
  have HE0 := Lib.hid hE
  clear hE
  go_still_tail 3, (by kernel_rfl)
  change wpList _ _ _ _ _ w2.drew
  clear c0 c1 c2 c3
  go_wp2_with fail
  refine (tag_put g 1 1 15 k encL0 72 _ HE0.out.1.drew (by decide) (by decide) (by omega) (by omega) HN.out.1 (Nat.le_of_ble_eq_true rfl)).mono ?_
  rintro r w2d ⟨rfl, w2e, hb, rfl⟩
  have hE := EncW.put (L' := layL encL0 1 (bs (leS k 1))) HE0.out.drew hb
  generalize w2e.setRow g _ = w3 at hE ⊢
  clear hb HE0
  go_wp2_with fail
  obtain ⟨c0, c1, c2, c3, _⟩ := hE.2.1
  have HE1 := Lib.hid hE
  clear hE
  go_still_tail 3, (by kernel_rfl)
  change wpList _ _ _ _ _ w3.drew
  clear c0 c1 c2 c3
  go_wp2_with fail
  refine (tag_put g 2 2 14 l (layL encL0 1 (bs (leS k 1))) 72 _ HE1.out.1.drew (by decide) (by decide) (by omega) (by omega) HN.out.2.1 (Nat.le_of_ble_eq_true rfl)).mono ?_
  rintro r w3d ⟨rfl, w3e, hb, rfl⟩
  have hE := EncW.put (L' := layL (layL encL0 1 (bs (leS k 1))) 2 (bs (leS l 2))) HE1.out.drew hb
  generalize w3e.setRow g _ = w4 at hE ⊢
  clear hb HE1
  go_wp2_with fail
  obtain ⟨c0, c1, c2, c3, _⟩ := hE.2.1
  have HE2 := Lib.hid hE
  clear hE
  go_still_tail 3, (by kernel_rfl)
  change wpList _ _ _ _ _ w4.drew
  clear c0 c1 c2 c3
  go_wp2_with fail
  refine (tag_put g 4 6 12 q (layL (layL encL0 1 (bs (leS k 1))) 2 (bs (leS l 2))) 72 _ HE2.out.1.drew (by decide) (by decide) (by omega) (by omega) HN.out.2.2.1 (Nat.le_of_ble_eq_true rfl)).mono ?_
  rintro r w4d ⟨rfl, w4e, hb, rfl⟩
  have hE := EncW.put (L' := layL (layL (layL encL0 1 (bs (leS k 1))) 2 (bs (leS l 2))) 4 (bs (leS q 6))) HE2.out.drew hb
  generalize w4e.setRow g _ = w5 at hE ⊢
  clear hb HE2
  go_wp2_with fail
  obtain ⟨c0, c1, c2, c3, _⟩ := hE.2.1
  have HE3 := Lib.hid hE
  clear hE
  go_still_tail 3, (by kernel_rfl)
  change wpList _ _ _ _ _ w5.drew
  clear c0 c1 c2 c3
  go_wp2_with fail
  refine (tag_put g 10 4 6 e (layL (layL (layL encL0 1 (bs (leS k 1))) 2 (bs (leS l 2))) 4 (bs (leS q 6))) 72 _ HE3.out.1.drew (by decide) (by decide) (by omega) (by omega) HN.out.2.2.2 (Nat.le_of_ble_eq_true rfl)).mono ?_
  rintro r w5d ⟨rfl, w5e, hb, rfl⟩
  have hE := EncW.put (L' := layL (layL (layL (layL encL0 1 (bs (leS k 1))) 2 (bs (leS l 2))) 4 (bs (leS q 6))) 10 (bs (leS e 4))) HE3.out.drew hb
  generalize w5e.setRow g _ = w6 at hE ⊢
  clear hb HE3
  have hcp := fun ty => copy_lay g 14 2 2 (layL (layL (layL (layL encL0 1 (bs (leS k 1))) 2 (bs (leS l 2))) 4 (bs (leS q 6))) 10 (bs (leS e 4))) 72 w6 ⟨#[0, 0]⟩ ty hE.1 (by decide) (Nat.le_of_ble_eq_true rfl)
  have hcv := conv_tca (hE.1.put (tca (layL (layL (layL (layL (layL encL0 1 (bs (leS k 1))) 2 (bs (leS l 2))) 4 (bs (leS q 6))) 10 (bs (leS e 4))) 14 (bs ⟨#[0, 0]⟩)))) 16 16 rfl
  have HF := Lib.hid (below_put (Nat.le_of_lt hE.2.2) (tca (layL (layL (layL (layL (layL encL0 1 (bs (leS k 1))) 2 (bs (leS l 2))) 4 (bs (leS q 6))) 10 (bs (leS e 4))) 14 (bs ⟨#[0, 0]⟩))) hE.2.1.2.2.2.2)
  rw [HE.out] at hcv
  clear hE HN HE HB
  go_wp2_with fail
  go_ret2
  exact ⟨rfl, HF.out⟩

set_option maxRecDepth 100000 in
theorem tag_enc_no (k l q e : Int) (w : World) (hm : ¬ MayT k l q e) : Calls Tryd.prog 21 #[.agg (ta k l q e)] w fun r w' => r = .returned (.tuple #[.string ByteArray.empty, .int .i64 1]) ∧ Below w.heap.size w w' := by
  have HB : Hid (mayB k l q e = false) := by rw [← Bool.not_eq_true, mayB_iff]; exact hm
  clear hm
  have hK := KT.first k l q e w 23
  go_enter Tryd.func21, Tryd.ntmps21
  go_wp2_with (refine wpList_load_row rfl 23 (.tmp 1) rfl w.heap.size rfl 23 (ta k l q e) (0, 0) _ (Blk.new w (ta k l q e) 23) Tryd.underlying23 rfl size_tag ?_)
  refine (tag_may k l q e _).mono ?_
  rintro r w1 ⟨rfl, hb1⟩
  have HK1 := Lib.hid (hK.call hb1)
  rw [HB.out]
  clear hK hb1
  go_wp2_with fail
  go_ret2
  exact ⟨rfl, HK1.out.2.2.2.2⟩

theorem tag_enc (k l q e : Int) (w : World) : Calls Tryd.prog 21 #[.agg (ta k l q e)] w (EncT k l q e w) := by
  unfold EncT encT encE
  by_cases h : MayT k l q e
  · rw [if_pos h, if_pos h]; exact tag_enc_yes k l q e w h
  · rw [if_neg h, if_neg h]; exact tag_enc_no k l q e w h

end Go.Proofs.YtlacmfacigfioaaDoor

/- Package tag, walked: Decode. -/
namespace Go.Proofs.YtlacmfacigfioaaDoor
set_option maxRecDepth 100000
open Go.RowKit

theorem form_iff (s : ByteArray) (h : s.size = 16) : FormT s ↔ byteT s 0 = 27 ∧ s.extract 14 16 = ⟨#[0, 0]⟩ := by
  have hl : s.data.toList.length = 16 := by simpa using h
  have he : s.extract 14 16 = ⟨#[0, 0]⟩ ↔ (s.data.toList.take 16).drop 14 = [0, 0] := by
    constructor
    · intro e
      rw [← list_extract, e]
    · intro e
      apply bytes_eq
      rw [list_extract, e]
  rw [he]
  unfold FormT byteT
  generalize s.data.toList = t at *
  match t, hl with
  | [b0, b1, b2, b3, b4, b5, b6, b7, b8, b9, b10, b11, b12, b13, b14, b15], _ =>
    simp only [List.getD_cons_zero, List.getD_cons_succ, h, true_and, List.take, List.drop, List.cons.injEq, and_true]
    constructor
    · rintro ⟨x, y, z⟩
      refine ⟨x, UInt8.toNat_inj.1 ?_, UInt8.toNat_inj.1 ?_⟩
      · rw [show (0 : UInt8).toNat = 0 from rfl]; omega
      · rw [show (0 : UInt8).toNat = 0 from rfl]; omega
    · rintro ⟨x, rfl, rfl⟩
      exact ⟨x, rfl, rfl⟩
theorem tag_num_one (s : ByteArray) (h : s.size = 16) : numS (s.extract 1 2) = byteT s 1 := by
  have h1 : (s.extract 1 2).size = 1 := by rw [ByteArray.size_extract]; omega
  have e := numTo_succ (s.extract 1 2) 0 (by omega)
  have e2 : ((s.extract 1 2)[0].toNat : Int) = byteT s 1 := by
    rw [← byteT_get s 1 (by omega)]
    simp [ByteArray.getElem_extract]
  unfold numS
  rw [h1]
  show numTo (s.extract 1 2) (0 + 1) = _
  rw [e, numTo_zero, e2]
  simp [show p2 0 = 1 by decide]

/-- what each operation of the region TD leaves -/
def vsTD (s s1 s2 s6 s4 : ByteArray) (k x y z : Int) : List (Option (Tmp × Value)) :=
  [some (19, .string s), some (20, .string s1), some (21, .int .i64 k), some (22, .string s), some (23, .string s2), some (24, .int .i64 x), some (25, .string s), some (26, .string s6), some (27, .int .i64 y), some (28, .string s), some (29, .string s4), some (30, .int .i64 z), some (31, .agg (ta k x y z)), none, none]
/-- the frame while the region TD runs -/
def BaseTD (s : ByteArray) (B : Nat) (a : Act) : Prop := ∃ u : Nat → Value, a = ⟨#[.string s, u 1, .pointer (some ⟨B, 0, none⟩), u 3, u 4, u 5, u 6, u 7, u 8, u 9, u 10, u 11, u 12, u 13, u 14, u 15, u 16, u 17, u 18, u 19, u 20, u 21, u 22, u 23, u 24, u 25, u 26, u 27, u 28, u 29, u 30, u 31, u 32, u 33, u 34, u 35, u 36], []⟩
theorem BaseTD.of {s : ByteArray} {B : Nat} (arr : Array Value) (h : arr = #[.string s, arr.getD 1 undef, .pointer (some ⟨B, 0, none⟩), arr.getD 3 undef, arr.getD 4 undef, arr.getD 5 undef, arr.getD 6 undef, arr.getD 7 undef, arr.getD 8 undef, arr.getD 9 undef, arr.getD 10 undef, arr.getD 11 undef, arr.getD 12 undef, arr.getD 13 undef, arr.getD 14 undef, arr.getD 15 undef, arr.getD 16 undef, arr.getD 17 undef, arr.getD 18 undef, arr.getD 19 undef, arr.getD 20 undef, arr.getD 21 undef, arr.getD 22 undef, arr.getD 23 undef, arr.getD 24 undef, arr.getD 25 undef, arr.getD 26 undef, arr.getD 27 undef, arr.getD 28 undef, arr.getD 29 undef, arr.getD 30 undef, arr.getD 31 undef, arr.getD 32 undef, arr.getD 33 undef, arr.getD 34 undef, arr.getD 35 undef, arr.getD 36 undef]) : BaseTD s B ⟨arr, []⟩ := ⟨fun i => arr.getD i undef, by rw [← h]⟩
theorem BaseTD.put19 {s : ByteArray} {B : Nat} (a : Act) (v : Value) (h : BaseTD s B a) : BaseTD s B (a.put (some 19) v) := by
  obtain ⟨u, rfl⟩ := h
  exact ⟨fun i => if i = 19 then v else u i, by kernel_rfl⟩
theorem BaseTD.put20 {s : ByteArray} {B : Nat} (a : Act) (v : Value) (h : BaseTD s B a) : BaseTD s B (a.put (some 20) v) := by
  obtain ⟨u, rfl⟩ := h
  exact ⟨fun i => if i = 20 then v else u i, by kernel_rfl⟩
theorem BaseTD.put21 {s : ByteArray} {B : Nat} (a : Act) (v : Value) (h : BaseTD s B a) : BaseTD s B (a.put (some 21) v) := by
  obtain ⟨u, rfl⟩ := h
  exact ⟨fun i => if i = 21 then v else u i, by kernel_rfl⟩
theorem BaseTD.put22 {s : ByteArray} {B : Nat} (a : Act) (v : Value) (h : BaseTD s B a) : BaseTD s B (a.put (some 22) v) := by
  obtain ⟨u, rfl⟩ := h
  exact ⟨fun i => if i = 22 then v else u i, by kernel_rfl⟩
theorem BaseTD.put23 {s : ByteArray} {B : Nat} (a : Act) (v : Value) (h : BaseTD s B a) : BaseTD s B (a.put (some 23) v) := by
  obtain ⟨u, rfl⟩ := h
  exact ⟨fun i => if i = 23 then v else u i, by kernel_rfl⟩
theorem BaseTD.put24 {s : ByteArray} {B : Nat} (a : Act) (v : Value) (h : BaseTD s B a) : BaseTD s B (a.put (some 24) v) := by
  obtain ⟨u, rfl⟩ := h
  exact ⟨fun i => if i = 24 then v else u i, by kernel_rfl⟩
theorem BaseTD.put25 {s : ByteArray} {B : Nat} (a : Act) (v : Value) (h : BaseTD s B a) : BaseTD s B (a.put (some 25) v) := by
  obtain ⟨u, rfl⟩ := h
  exact ⟨fun i => if i = 25 then v else u i, by kernel_rfl⟩
theorem BaseTD.put26 {s : ByteArray} {B : Nat} (a : Act) (v : Value) (h : BaseTD s B a) : BaseTD s B (a.put (some 26) v) := by
  obtain ⟨u, rfl⟩ := h
  exact ⟨fun i => if i = 26 then v else u i, by kernel_rfl⟩
theorem BaseTD.put27 {s : ByteArray} {B : Nat} (a : Act) (v : Value) (h : BaseTD s B a) : BaseTD s B (a.put (some 27) v) := by
  obtain ⟨u, rfl⟩ := h
  exact ⟨fun i => if i = 27 then v else u i, by kernel_rfl⟩
theorem BaseTD.put28 {s : ByteArray} {B : Nat} (a : Act) (v : Value) (h : BaseTD s B a) : BaseTD s B (a.put (some 28) v) := by
  obtain ⟨u, rfl⟩ := h
  exact ⟨fun i => if i = 28 then v else u i, by kernel_rfl⟩
theorem BaseTD.put29 {s : ByteArray} {B : Nat} (a : Act) (v : Value) (h : BaseTD s B a) : BaseTD s B (a.put (some 29) v) := by
  obtain ⟨u, rfl⟩ := h
  exact ⟨fun i => if i = 29 then v else u i, by kernel_rfl⟩
theorem BaseTD.put30 {s : ByteArray} {B : Nat} (a : Act) (v : Value) (h : BaseTD s B a) : BaseTD s B (a.put (some 30) v) := by
  obtain ⟨u, rfl⟩ := h
  exact ⟨fun i => if i = 30 then v else u i, by kernel_rfl⟩
theorem BaseTD.put31 {s : ByteArray} {B : Nat} (a : Act) (v : Value) (h : BaseTD s B a) : BaseTD s B (a.put (some 31) v) := by
  obtain ⟨u, rfl⟩ := h
  exact ⟨fun i => if i = 31 then v else u i, by kernel_rfl⟩
theorem BaseTD.put4 {s : ByteArray} {B : Nat} (a : Act) (v : Value) (h : BaseTD s B a) : BaseTD s B (a.put (some 4) v) := by
  obtain ⟨u, rfl⟩ := h
  exact ⟨fun i => if i = 4 then v else u i, by kernel_rfl⟩

set_option maxRecDepth 100000 in
theorem tag_dec_size (s : ByteArray) (w : World) (h : s.size ≠ 16) (hm : s.size ≤ maxLen) :
    Calls Tryd.prog 64 #[.string s] w fun r w' => r = .returned (.tuple #[.agg (ta 0 0 0 0), .int .i64 3]) ∧ Below w.heap.size w w' := by
  have hm2 : (s.size : Int) ≤ 9223372036854775807 := by unfold maxLen at hm; omega
  have h2 : ((s.size : Int) == 16) = false := by simp; omega
  have hR := fun cs => (Blk.new w (ta 0 0 0 0) 23).put cs
  clear hm
  go_enter Tryd.func64, Tryd.ntmps64
  go_wp2_with (refine wpList_store_row rfl 23 (.tmp 2) (.tmp 18) rfl w.heap.size (ta 0 0 0 0) rfl rfl 23 (ta 0 0 0 0) (Blk.new w (ta 0 0 0 0) 23) size_tag rfl (ta_one _ _ _ _) ?_)
  exact bodyPost_ret (results_cell_tmp rfl _ _ w.heap.size 23 (ta 0 0 0 0) _ rfl (hR _) Tryd.underlying23 rfl size_tag) rfl ⟨rfl, below_put (Nat.le_refl _) _ ((Below.refl _ _).alloc (Nat.le_refl _) _)⟩

set_option maxRecDepth 100000 in
theorem tag_dec_form (s : ByteArray) (w : World) (h : s.size = 16) (hf : ¬ FormT s) :
    Calls Tryd.prog 64 #[.string s] w fun r w' => r = .returned (.tuple #[.agg (ta 0 0 0 0), .int .i64 3]) ∧ Below w.heap.size w w' := by
  have hs : (s.size : Int) = 16 := by omega
  have hs2 : ((s.size : Int) == 16) = true := by rw [hs]; rfl
  have g0 := byteT_get s 0 (by omega)
  obtain ⟨b0, hb0⟩ : ∃ b : Nat, s[0].toNat = b := ⟨_, rfl⟩
  obtain ⟨t, ht⟩ : ∃ t, s.extract 14 16 = t := ⟨_, rfl⟩
  have hne : ¬ (b0 = 27 ∧ t = ⟨#[0, 0]⟩) := fun ⟨x, y⟩ => hf ((form_iff s h).2 ⟨by rw [← g0, hb0, x]; rfl, ht.trans y⟩)
  clear hf g0
  have hR := fun cs => (Blk.new w (ta 0 0 0 0) 23).put cs
  by_cases e0 : b0 = 27
  · have hd : t ≠ ⟨#[0, 0]⟩ := fun e => hne ⟨e0, e⟩
    have hq : (t.toList == [0, 0]) = false := by
      rw [beq_eq_false_iff_ne]
      intro e
      apply hd
      apply bytes_eq
      rw [← ByteArray.toList_eq, e]
    clear hne hd
    go_enter Tryd.func64, Tryd.ntmps64
    go_wp2_with (refine wpList_store_row rfl 23 (.tmp 2) (.tmp 18) rfl w.heap.size (ta 0 0 0 0) rfl rfl 23 (ta 0 0 0 0) (Blk.new w (ta 0 0 0 0) 23) size_tag rfl (ta_one _ _ _ _) ?_)
    exact bodyPost_ret (results_cell_tmp rfl _ _ w.heap.size 23 (ta 0 0 0 0) _ rfl (hR _) Tryd.underlying23 rfl size_tag) rfl ⟨rfl, below_put (Nat.le_refl _) _ ((Below.refl _ _).alloc (Nat.le_refl _) _)⟩
  · clear hne
    go_enter Tryd.func64, Tryd.ntmps64
    go_wp2_with (refine wpList_store_row rfl 23 (.tmp 2) (.tmp 18) rfl w.heap.size (ta 0 0 0 0) rfl rfl 23 (ta 0 0 0 0) (Blk.new w (ta 0 0 0 0) 23) size_tag rfl (ta_one _ _ _ _) ?_)
    exact bodyPost_ret (results_cell_tmp rfl _ _ w.heap.size 23 (ta 0 0 0 0) _ rfl (hR _) Tryd.underlying23 rfl size_tag) rfl ⟨rfl, below_put (Nat.le_refl _) _ ((Below.refl _ _).alloc (Nat.le_refl _) _)⟩

set_option maxHeartbeats 1000000 in
set_option maxRecDepth 100000 in
theorem tag_dec_yes (s : ByteArray) (w : World) (hf : FormT s) :
    Calls Tryd.prog 64 #[.string s] w fun r w' => r = .returned (if mayB (byteT s 1) (lT s) (qT s) (eT s) then .tuple #[.agg (ta (byteT s 1) (lT s) (qT s) (eT s)), .int .i64 0] else .tuple #[.agg (ta 0 0 0 0), .int .i64 3]) ∧ Below w.heap.size w w' := by
  have h := hf.1
  obtain ⟨f0, ft⟩ := (form_iff s h).1 hf
  have hs : (s.size : Int) = 16 := by omega
  have hs2 : ((s.size : Int) == 16) = true := by rw [hs]; rfl
  have g0 := byteT_get s 0 (by omega)
  rw [f0] at g0
  have hb0 : s[0].toNat = 27 := by omega
  have x1 : (s.extract 1 2).size = 1 := by rw [ByteArray.size_extract]; omega
  have x2 : (s.extract 2 4).size = 2 := by rw [ByteArray.size_extract]; omega
  have x6 : (s.extract 4 10).size = 6 := by rw [ByteArray.size_extract]; omega
  have x4 : (s.extract 10 14).size = 4 := by rw [ByteArray.size_extract]; omega
  have hk0 := tag_num_one s h
  unfold lT qT eT
  obtain ⟨s1, e1⟩ : ∃ t, s.extract 1 2 = t := ⟨_, rfl⟩
  obtain ⟨s2, e2⟩ : ∃ t, s.extract 2 4 = t := ⟨_, rfl⟩
  obtain ⟨s6, e6⟩ : ∃ t, s.extract 4 10 = t := ⟨_, rfl⟩
  obtain ⟨s4, e4⟩ : ∃ t, s.extract 10 14 = t := ⟨_, rfl⟩
  rw [e1] at x1 hk0; rw [e2] at x2 ⊢; rw [e6] at x6 ⊢; rw [e4] at x4 ⊢
  rw [← hk0]
  obtain ⟨k, hk⟩ : ∃ x, numS s1 = x := ⟨_, rfl⟩
  obtain ⟨x, hx⟩ : ∃ x, numS s2 = x := ⟨_, rfl⟩
  obtain ⟨y, hy⟩ : ∃ y, numS s6 = y := ⟨_, rfl⟩
  obtain ⟨z, hz⟩ : ∃ z, numS s4 = z := ⟨_, rfl⟩
  rw [hk, hx, hy, hz]
  obtain ⟨m, hm⟩ : ∃ m, mayB k x y z = m := ⟨_, rfl⟩
  rw [hm]
  have H1 := Lib.hid x1; have H2 := Lib.hid x2; have H6 := Lib.hid x6; have H4 := Lib.hid x4
  have HE1 := Lib.hid e1; have HE2 := Lib.hid e2; have HE6 := Lib.hid e6; have HE4 := Lib.hid e4
  have HK := Lib.hid hk; have HX := Lib.hid hx; have HY := Lib.hid hy; have HZ := Lib.hid hz; have HM := Lib.hid hm
  have HS := Lib.hid hs
  clear hf f0 g0 x1 x2 x6 x4 hk0 e1 e2 e6 e4 hk hx hy hz hm
  go_enter Tryd.func64, Tryd.ntmps64
  go_wp2_with fail
  refine wp_region_list3 (SV (vsTD s s1 s2 s6 s4 k x y z) [4]) (BaseTD s w.heap.size) (CT w) (TT w.heap.size (ta k x y z)) (RV (vsTD s s1 s2 s6 s4 k x y z) (SpT w.heap.size (ta k x y z))) rfl (by kernel_rfl) (RV.ext SpT.ext) ?base ?start (BaseTD.of _ (by kernel_rfl)) ?steps ?fin
  case start => exact ⟨(Blk.new w (ta 0 0 0 0) 23).drew, ((Below.refl _ _).alloc (Nat.le_refl _) _).drew⟩
  case base => exact ⟨BaseTD.put19, BaseTD.put20, BaseTD.put21, BaseTD.put22, BaseTD.put23, BaseTD.put24, BaseTD.put25, BaseTD.put26, BaseTD.put27, BaseTD.put28, BaseTD.put29, BaseTD.put30, BaseTD.put31, BaseTD.put4, fun a v h => h, trivial⟩
  case steps =>
    refine ⟨?_, ?_, ?_, ?_, ?_, ?_, ?_, ?_, ?_, ?_, ?_, ?_, ?_, ?_, ?_, trivial⟩
    all_goals
      intro a w' hC hB hR
      obtain ⟨u, rfl⟩ := hB
      have hlt : w.heap.size < w'.heap.size := hC.1.lt
      have HC := Lib.hid hC
      clear hC
    · clear hR
      refine if_yes (by kernel_rfl) ?_
      unfold Oper.wp
      go_simp
      exact ⟨.string s, rfl, HC.out, TT.of (Below.refl _ _) hlt, rfl⟩
    · have h19 : u 19 = .string s := hR ⟨0, .data⟩ (by simp) rfl
      have hsz := HS.out
      have hx := HE1.out
      clear hR
      simp only [h19]
      clear h19
      refine if_yes (by kernel_rfl) ?_
      unfold Oper.wp
      go_simp
      exact ⟨.string s1, rfl, HC.out, TT.of (Below.refl _ _) hlt, rfl⟩
    · have h20 : u 20 = .string s1 := hR ⟨1, .data⟩ (by simp) rfl
      clear hR
      simp only [h20]
      clear h20
      refine if_yes (by kernel_rfl) ?_
      unfold Oper.wp
      go_simp
      refine (tag_get s1 _ (by rw [H1.out]; decide) (by rw [H1.out]; decide)).mono ?_
      rintro r w2 ⟨rfl, rfl⟩
      exact ⟨_, rfl, HC.out, TT.of (Below.refl _ _) hlt, congrArg (Value.int .i64) HK.out⟩
    · clear hR
      refine if_yes (by kernel_rfl) ?_
      unfold Oper.wp
      go_simp
      exact ⟨.string s, rfl, HC.out, TT.of (Below.refl _ _) hlt, rfl⟩
    · have h22 : u 22 = .string s := hR ⟨3, .data⟩ (by simp) rfl
      have hsz := HS.out
      have hx := HE2.out
      clear hR
      simp only [h22]
      clear h22
      refine if_yes (by kernel_rfl) ?_
      unfold Oper.wp
      go_simp
      exact ⟨.string s2, rfl, HC.out, TT.of (Below.refl _ _) hlt, rfl⟩
    · have h23 : u 23 = .string s2 := hR ⟨4, .data⟩ (by simp) rfl
      clear hR
      simp only [h23]
      clear h23
      refine if_yes (by kernel_rfl) ?_
      unfold Oper.wp
      go_simp
      refine (tag_get s2 _ (by rw [H2.out]; decide) (by rw [H2.out]; decide)).mono ?_
      rintro r w2 ⟨rfl, rfl⟩
      exact ⟨_, rfl, HC.out, TT.of (Below.refl _ _) hlt, congrArg (Value.int .i64) HX.out⟩
    · clear hR
      refine if_yes (by kernel_rfl) ?_
      unfold Oper.wp
      go_simp
      exact ⟨.string s, rfl, HC.out, TT.of (Below.refl _ _) hlt, rfl⟩
    · have h25 : u 25 = .string s := hR ⟨6, .data⟩ (by simp) rfl
      have hsz := HS.out
      have hx := HE6.out
      clear hR
      simp only [h25]
      clear h25
      refine if_yes (by kernel_rfl) ?_
      unfold Oper.wp
      go_simp
      exact ⟨.string s6, rfl, HC.out, TT.of (Below.refl _ _) hlt, rfl⟩
    · have h26 : u 26 = .string s6 := hR ⟨7, .data⟩ (by simp) rfl
      clear hR
      simp only [h26]
      clear h26
      refine if_yes (by kernel_rfl) ?_
      unfold Oper.wp
      go_simp
      refine (tag_get s6 _ (by rw [H6.out]; decide) (by rw [H6.out]; decide)).mono ?_
      rintro r w2 ⟨rfl, rfl⟩
      exact ⟨_, rfl, HC.out, TT.of (Below.refl _ _) hlt, congrArg (Value.int .i64) HY.out⟩
    · clear hR
      refine if_yes (by kernel_rfl) ?_
      unfold Oper.wp
      go_simp
      exact ⟨.string s, rfl, HC.out, TT.of (Below.refl _ _) hlt, rfl⟩
    · have h28 : u 28 = .string s := hR ⟨9, .data⟩ (by simp) rfl
      have hsz := HS.out
      have hx := HE4.out
      clear hR
      simp only [h28]
      clear h28
      refine if_yes (by kernel_rfl) ?_
      unfold Oper.wp
      go_simp
      exact ⟨.string s4, rfl, HC.out, TT.of (Below.refl _ _) hlt, rfl⟩
    · have h29 : u 29 = .string s4 := hR ⟨10, .data⟩ (by simp) rfl
      clear hR
      simp only [h29]
      clear h29
      refine if_yes (by kernel_rfl) ?_
      unfold Oper.wp
      go_simp
      refine (tag_get s4 _ (by rw [H4.out]; decide) (by rw [H4.out]; decide)).mono ?_
      rintro r w2 ⟨rfl, rfl⟩
      exact ⟨_, rfl, HC.out, TT.of (Below.refl _ _) hlt, congrArg (Value.int .i64) HZ.out⟩
    · have h21 : u 21 = .int .i64 k := hR ⟨2, .data⟩ (by simp) rfl
      have h24 : u 24 = .int .i64 x := hR ⟨5, .data⟩ (by simp) rfl
      have h27 : u 27 = .int .i64 y := hR ⟨8, .data⟩ (by simp) rfl
      have h30 : u 30 = .int .i64 z := hR ⟨11, .data⟩ (by simp) rfl
      clear hR
      simp only [h21, h24, h27, h30]
      clear h21 h24 h27 h30
      refine if_yes (by kernel_rfl) ?_
      unfold Oper.wp
      go_simp
      exact ⟨.agg (ta k x y z), rfl, HC.out, TT.of (Below.refl _ _) hlt, rfl⟩
    · clear hR
      refine if_yes (by kernel_rfl) ?_
      unfold Oper.wp
      go_simp
      exact ⟨_, rfl, ⟨HC.out.1.alloc _, HC.out.2.alloc (Nat.le_of_lt hlt) _⟩, TT.of ((Below.refl _ _).alloc (Nat.le_refl _) _) hlt, ⟨_, _, hlt, rfl, Blk.new _ _ _, rfl, fun h => by cases h⟩⟩
    · have h31 : u 31 = .agg (ta k x y z) := hR ⟨12, .data⟩ (by simp) rfl
      obtain ⟨g, cs, hg, hp, hb, hcs, _⟩ := hR ⟨13, .data⟩ (by simp) rfl
      have hp : u 4 = .pointer (some ⟨g, 0, none⟩) := hp
      clear hR
      simp only [h31]
      clear h31
      refine if_yes (by kernel_rfl) ?_
      simp only [hp]
      exact wp_store_row 23 (.tmp 4) (.tmp 31) rfl g (ta k x y z) rfl rfl 23 cs hb size_tag hcs (ta_one _ _ _ _) ⟨undef, rfl, ⟨HC.out.1.put_other (by omega) _, below_put (by omega) _ HC.out.2⟩, TT.store hg hb rfl, ⟨g, _, hg, rfl, hb.put _, rfl, fun _ => rfl⟩⟩
  case fin =>
    intro a w' hC hB hR
    obtain ⟨g, cs, hg, hp, hb, hcs, he⟩ := hR 14 (by decide)
    clear hR
    obtain rfl := he rfl
    obtain ⟨u, rfl⟩ := hB
    have hp : u 4 = .pointer (some ⟨g, 0, none⟩) := hp
    simp only [hp]
    have HC := Lib.hid hC
    have HB := Lib.hid hb
    clear hC hb hcs he hp H1 H2 H6 H4 HE1 HE2 HE6 HE4 HK HX HY HZ HS
    go_wp2_with (refine wpList_load_row rfl 23 (.tmp 4) rfl g rfl 23 (ta k x y z) (0, 0) _ HB.out Tryd.underlying23 rfl size_tag ?_)
    refine (tag_may _ _ _ _ _).mono ?_
    rintro r w5 ⟨rfl, hb5⟩
    rw [HM.out]
    have HR5 := Lib.hid (HC.out.1.after hb5)
    have HB5 := Lib.hid (HB.out.after hb5)
    have HL5 := Lib.hid (HC.out.2.trans (hb5.mono (by have := HC.out.2.size; exact this)))
    clear hb5 HM
    cases m
    · go_wp2_with (refine wpList_store_row rfl 23 (.tmp 2) (.tmp 35) rfl w.heap.size (ta 0 0 0 0) rfl rfl 23 (ta 0 0 0 0) HR5.out size_tag rfl (ta_one _ _ _ _) ?_)
      exact bodyPost_ret (results_cell_tmp rfl _ _ w.heap.size 23 (ta 0 0 0 0) _ rfl (HR5.out.put _) Tryd.underlying23 rfl size_tag) rfl ⟨rfl, below_put (Nat.le_refl _) _ HL5.out⟩
    · go_wp2_with (first
        | (refine wpList_load_row rfl 23 (.tmp 4) rfl g rfl 23 (ta k x y z) (0, 0) _ HB5.out Tryd.underlying23 rfl size_tag ?_)
        | (refine wpList_store_row rfl 23 (.tmp 2) (.tmp 36) rfl w.heap.size (ta k x y z) rfl rfl 23 (ta 0 0 0 0) HR5.out size_tag rfl (ta_one _ _ _ _) ?_))
      exact bodyPost_ret (results_cell_tmp rfl _ _ w.heap.size 23 (ta k x y z) _ rfl (HR5.out.put _) Tryd.underlying23 rfl size_tag) rfl ⟨rfl, below_put (Nat.le_refl _) _ HL5.out⟩

theorem tag_dec (s : ByteArray) (w : World) (hm : s.size ≤ maxLen) : Calls Tryd.prog 64 #[.string s] w (DecT s w) := by
  unfold DecT decA decE
  by_cases hf : FormT s
  · have h := tag_dec_yes s w hf
    by_cases hm2 : MayT (byteT s 1) (lT s) (qT s) (eT s)
    · rw [if_pos ⟨hf, hm2⟩, if_pos ⟨hf, hm2⟩]
      rwa [if_pos ((mayB_iff _ _ _ _).2 hm2)] at h
    · rw [if_neg (fun h => hm2 h.2), if_neg (fun h => hm2 h.2)]
      rwa [if_neg (fun h => hm2 ((mayB_iff _ _ _ _).1 h))] at h
  · rw [if_neg (fun h => hf h.1), if_neg (fun h => hf h.1)]
    by_cases hz : s.size = 16
    · exact tag_dec_form s w hz hf
    · exact tag_dec_size s w hz hm

end Go.Proofs.YtlacmfacigfioaaDoor

/- Package tag: the three contracts (May: TagC0, Encode: TagC2, Decode: TagC3). -/
namespace Go.Proofs.YtlacmfacigfioaaDoor
set_option maxRecDepth 100000
theorem tag_contracts : True := trivial
end Go.Proofs.YtlacmfacigfioaaDoor
