/- Contracts of package ham: Decode. -/
import Derived.Test.YtcjhojedenpmbaaDoorHamC4
import Derived.Test.YtcjhojedenpmbaaDoorInv
namespace Go.Proofs.YtcjhojedenpmbaaDoor
open Go.RowKit

/-- what each operation of Decode's two calls leaves -/
def RD (l : List UInt8) (p : Nat) (o : Bool) : Nat → Value → World → Prop
  | 0, v, _ => v = .agg (ca l)
  | 1, v, _ => v = .int .u8 p
  | 2, v, _ => v = .agg (ca l)
  | 3, v, _ => v = .bool o
  | 4, v, _ => v = .int .u8 p
  | _, v, _ => v = .bool o
def CD (w0 : World) (l : List UInt8) (w : World) : Prop := ChunkAt w w0.heap.size l ∧ TabAt w ∧ Below w0.heap.size w0 w
def TT (_ _ : World) : Prop := True
theorem RD.mono {l : List UInt8} {p : Nat} {o : Bool} : ∀ (i : Nat) (v : Value) (w w' : World), RD l p o i v w → TT w w' → RD l p o i v w' := by
  intro i v w w' h _
  unfold RD at *
  split at h <;> exact h

/-- the frame while Decode's two calls are made -/
def BaseD (s : ByteArray) (B : Nat) (a : Act) : Prop := ∃ u6 u7 u14 u15 u16 u17 : Value, a = ⟨#[.string s, undef, .string ⟨#[]⟩, .int .i64 0, .int .i64 0, .pointer (some ⟨B, 0, none⟩), u6, u7, .string s, .int .i64 9, .bool false, .slice (some ⟨B, 0, none⟩) 9 9, .string s, .int .i64 9, u14, u15, u16, u17, undef, undef, undef, undef, undef, undef, undef, undef, undef, undef, undef, undef, undef, undef, undef, undef, undef, undef, undef, undef, undef], []⟩
theorem BaseD.size {s : ByteArray} {B : Nat} {a : Act} (h : BaseD s B a) : a.tmps.size = 39 := by
  obtain ⟨u6, u7, u14, u15, u16, u17, rfl⟩ := h
  rfl
theorem BaseD.put {s : ByteArray} {B : Nat} {a : Act} {v : Value} (h : BaseD s B a) : BaseD s B (a.put (some 14) v) ∧ BaseD s B (a.put (some 15) v) ∧ BaseD s B (a.put (some 16) v) ∧ BaseD s B (a.put (some 17) v) ∧ BaseD s B (a.put (some 6) v) ∧ BaseD s B (a.put (some 7) v) := by
  obtain ⟨u6, u7, u14, u15, u16, u17, rfl⟩ := h
  exact ⟨⟨u6, u7, v, u15, u16, u17, rfl⟩, ⟨u6, u7, u14, v, u16, u17, rfl⟩, ⟨u6, u7, u14, u15, v, u17, rfl⟩, ⟨u6, u7, u14, u15, u16, v, rfl⟩, ⟨v, u7, u14, u15, u16, u17, rfl⟩, ⟨u6, v, u14, u15, u16, u17, rfl⟩⟩

theorem take9 (s : ByteArray) (h : s.size = 9) : bs s ++ List.replicate (9 - s.size) 0 = bs s := by rw [h]; simp
theorem bs9 (s : ByteArray) (h : s.size = 9) : (bs s).length = 9 := by rw [bs_length, h]

set_option maxRecDepth 100000 in
theorem dec_no (s : ByteArray) (w : World) (h : s.size ≠ 9) (hm : s.size ≤ maxLen) :
    Calls Tryd.prog 12 #[.string s] w fun e w' => e = .returned (.tuple #[.string ByteArray.empty, .int .i64 0, .int .i64 4]) ∧ Below w.heap.size w w' := by
  have hm2 : (s.size : Int) ≤ 9223372036854775807 := by unfold maxLen at hm; omega
  have h2 : (s.size : Int) ≠ 9 := by omega
  clear hm
  go_enter Tryd.func12, Tryd.ntmps12
  go_wp2
  go_ret3
  exact ⟨rfl, (Below.refl _ _).alloc (Nat.le_refl _) _⟩

theorem ext8 (s : ByteArray) : (⟨((bs s).take 8).toArray⟩ : ByteArray) = s.extract 0 8 := by
  apply bs_inj
  rw [take_ext]; rfl
theorem fix8 (s : ByteArray) (h : s.size = 9) (p : Nat) : (⟨((turnL (bs s) p 64).take 8).toArray⟩ : ByteArray) = fixS s p := by
  apply bs_inj
  unfold turnL fixS
  by_cases h2 : idx p < 64
  · rw [if_pos h2, if_pos h2, take_ext]
    show (fl (bs s) (idx p / 8) (idx p % 8)).take 8 = ((flipS s (idx p / 8) (idx p % 8)).data.toList).take 8
    rw [flipS_list _ _ _ (by omega)]; rfl
  · rw [if_neg h2, if_neg h2, take_ext]; rfl
theorem odd_no {s : ByteArray} (h : oddB (bs s) = false) : cnt (numN (bs s)) 72 % 2 = 0 := by
  unfold oddB at h
  have := of_decide_eq_false h
  omega
theorem odd_yes {s : ByteArray} (h : oddB (bs s) = true) : ¬ cnt (numN (bs s)) 72 % 2 = 0 := by
  unfold oddB at h
  have := of_decide_eq_true h
  omega
theorem CD.call {w0 w w' : World} {l : List UInt8} (h : CD w0 l w) (hg : 0 < w0.heap.size) (hb : Below w.heap.size w w') : CD w0 l w' :=
  ⟨h.1.after hb, h.2.1.below hb (by have := h.2.2.size; omega), h.2.2.trans (hb.mono h.2.2.size)⟩

set_option maxHeartbeats 1000000 in
set_option maxRecDepth 100000 in
theorem dec_yes_at (s : ByteArray) (w : World) (h : s.size = 9) (hT : TabAt w) (hg : 0 < w.heap.size) : Calls Tryd.prog 12 #[.string s] w (DecPost s w) := by
  have hcp := fun ty => copy_chunk s w (by omega) ty
  rw [take9 s h] at hcp
  have h9 : (s.size : Int) = 9 := by omega
  obtain ⟨p, hpe⟩ : ∃ p, left (numN (bs s)) 72 = p := ⟨_, rfl⟩
  obtain ⟨o, hoe⟩ : ∃ o, oddB (bs s) = o := ⟨_, rfl⟩
  have hp7 : p < 128 := by rw [← hpe]; exact left_lt _ _
  have hLen := bs9 s h
  have HP := Lib.hid hpe
  have HO := Lib.hid hoe
  have HT := Lib.hid hT
  have HL := Lib.hid hLen
  have hs := size_ca (bs s) hLen
  clear hpe hoe hT hLen
  go_enter Tryd.func12, Tryd.ntmps12
  go_wp2
  refine wp_region_list 39 (BaseD s w.heap.size) (CD w (bs s)) TT (RD (bs s) p o) rfl (by kernel_rfl) (fun a h => h.size) RD.mono ?base ?start ⟨_, _, _, _, _, _, rfl⟩ ?steps ?fin
  case base => exact ⟨fun a v h => h.put.1, fun a v h => h.put.2.1, fun a v h => h.put.2.2.1, fun a v h => h.put.2.2.2.1, fun a v h => h.put.2.2.2.2.1, fun a v h => h.put.2.2.2.2.2, trivial⟩
  case start => exact ⟨(ChunkAt.new w (bs s)).drew, fun i hi => HT.out.below ((Below.refl _ _).alloc (Nat.le_refl _) _) hg i hi, ((Below.refl _ _).alloc (Nat.le_refl _) _).drew⟩
  case steps =>
    clear hcp
    refine ⟨?_, ?_, ?_, ?_, ?_, ?_, trivial⟩
    all_goals
      refine ⟨rfl, ?_⟩
      intro a w' hC hB hR
      obtain ⟨u6, u7, u14, u15, u16, u17, rfl⟩ := hB
      have HC := Lib.hid hC
      clear hC
    · exact wp_load_row 36 (.tmp 5) rfl w.heap.size rfl 36 (ca (bs s)) (0, 0) _ HC.out.1 Tryd.underlying36 rfl hs ⟨_, rfl, HC.out, trivial, rfl⟩
    · have h0 := hR ⟨0, .data⟩ (by simp) rfl
      clear hR
      simp [RD, slotOf] at h0
      subst h0
      unfold Oper.wp
      go_simp
      refine (left_any (bs s) _ HL.out HC.out.2.1 (by have := HC.out.2.2.size; omega)).mono ?_
      rintro e w1 ⟨rfl, hb1⟩
      exact ⟨HC.out.call hg hb1, trivial, congrArg (fun n : Nat => Value.int .u8 (n : Int)) HP.out⟩
    · exact wp_load_row 36 (.tmp 5) rfl w.heap.size rfl 36 (ca (bs s)) (0, 0) _ HC.out.1 Tryd.underlying36 rfl hs ⟨_, rfl, HC.out, trivial, rfl⟩
    · have h0 := hR ⟨2, .data⟩ (by simp) rfl
      clear hR
      simp [RD, slotOf] at h0
      subst h0
      unfold Oper.wp
      go_simp
      refine (odd_any (bs s) _ HL.out).mono ?_
      rintro e w1 ⟨rfl, hb1⟩
      exact ⟨HC.out.call hg hb1, trivial, congrArg Value.bool HO.out⟩
    · have h0 := hR ⟨1, .data⟩ (by simp) rfl
      clear hR
      simp [RD, slotOf] at h0
      subst h0
      unfold Oper.wp
      go_simp
      exact ⟨HC.out, trivial, rfl⟩
    · have h0 := hR ⟨3, .data⟩ (by simp) rfl
      clear hR
      simp [RD, slotOf] at h0
      subst h0
      unfold Oper.wp
      go_simp
      exact ⟨HC.out, trivial, rfl⟩
  case fin =>
    intro a w' hC hB hR
    have s4 := hR 4 (by decide)
    have s5 := hR 5 (by decide)
    obtain ⟨u6, u7, u14, u15, u16, u17, rfl⟩ := hB
    simp [RD, slotOf] at s4 s5
    subst s4 s5
    obtain ⟨hK, hT2, hbl⟩ := hC
    have HT2 := Lib.hid hT2
    have HB := Lib.hid hbl
    clear hR hcp hT2 hbl
    cases o with
    | false =>
      have h1 := odd_no HO.out
      by_cases hp0 : p = 0
      · have HE := Lib.hid (dec_good h1 (HP.out.trans hp0))
        have hcv := hK.conv 8 9 (by rw [HL.out]; omega)
        have H8 := Lib.hid (ext8 s)
        subst hp0
        clear h1 hK
        go_wp2
        go_ret3
        exact ⟨ret_dec (by rw [HE.out]; exact H8.out) (by rw [HE.out]; rfl), HB.out⟩
      · have HE := Lib.hid (dec_bad h1 (fun h => hp0 (HP.out.symm.trans h)))
        have hp0b : ((p : Int) == 0) = false := by simp; omega
        clear h1 hK hp0
        go_wp2
        go_ret3
        exact ⟨ret_dec (by rw [HE.out]; rfl) (by rw [HE.out]; rfl), HB.out⟩
    | true =>
      have h1 := odd_yes HO.out
      by_cases hp71 : 71 < p
      · have HE := Lib.hid (dec_far h1 (by rw [HP.out]; exact hp71))
        have hp71b : decide ((71 : Int) < (p : Int)) = true := by simp; omega
        clear h1 hK hp71
        go_wp2
        go_ret3
        exact ⟨ret_dec (by rw [HE.out]; rfl) (by rw [HE.out]; rfl), HB.out⟩
      · have HE := Lib.hid (dec_fix h1 (by rw [HP.out]; exact hp71))
        have hp71b : decide ((71 : Int) < (p : Int)) = false := by simp; omega
        have H8 := Lib.hid (fix8 s h p)
        obtain ⟨m, hm⟩ : ∃ m, turnL (bs s) p 64 = m := ⟨_, rfl⟩
        have hml : m.length = 9 := by rw [← hm, turnL_length]; exact HL.out
        have HM := Lib.hid hm
        have HML := Lib.hid hml
        rw [hm] at H8
        have hsm := size_ca m hml
        have HK := Lib.hid hK
        have HSZ : Hid ((ca (bs s)).size = (ca m).size) := by rw [ca_size, ca_size, HL.out, hml]; exact rfl
        clear h1 hK hm hml
        go_wp2_with (refine wpList_load_row rfl 36 (.tmp 5) rfl w.heap.size rfl 36 (ca (bs s)) (0, 0) _ HK.out Tryd.underlying36 rfl hs ?_)
        refine (turned_any (bs s) p _ HL.out (by omega) HT2.out (by have := HB.out.size; omega)).mono ?_
        rintro e w2 ⟨rfl, hb2⟩
        rw [HM.out]
        have HK2 := Lib.hid (HK.out.after hb2)
        have HB2 := Lib.hid (HB.out.trans (hb2.mono HB.out.size))
        have hcv := (HK2.out.put (m := m)).conv 8 9 (by rw [HML.out]; omega)
        clear hb2 hs
        go_wp2_with (refine wpList_store_row rfl 36 (.tmp 5) (.tmp 36) rfl w.heap.size (ca m) rfl rfl 36 (ca (bs s)) HK2.out hsm HSZ.out (ca_one m) ?_)
        go_ret3
        exact ⟨ret_dec (by rw [HE.out, HP.out]; exact H8.out) (by rw [HE.out]; rfl), below_setRow (Nat.le_refl _) _ HB2.out⟩

theorem dec_yes (s : ByteArray) (w : World) (h : s.size = 9) (hT : TabAt w) : Calls Tryd.prog 12 #[.string s] w (DecPost s w) := dec_yes_at s w h hT (cell_lt (hT 0 (by decide)))

end Go.Proofs.YtcjhojedenpmbaaDoor
