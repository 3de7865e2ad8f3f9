/- Package sheet, walked: Hold, and whether a text has noughts alone. -/
import Derived.Test.YtklbmlnghindjaaDoorShM
import Derived.Test.YtklbmlnghindjaaDoorRcC
namespace Go.Proofs.YtklbmlnghindjaaDoor
set_option maxRecDepth 100000
open Go.RowKit

theorem sh_hold (n : Int) (w : World) : Calls Tryd.prog 13 #[.int .i64 n] w fun e w' => e = .returned (.int .i64 (holdN n)) ∧ w = w' := by
  by_cases h : 16 ≤ n ∧ n ≤ 256
  · have hh : (n - 1) / 9 = (holdN n : Int) := by rw [holdN_in h]; omega
    obtain ⟨m, hm⟩ : ∃ m, holdN n = m := ⟨_, rfl⟩
    rw [hm] at hh ⊢
    have HH := Lib.hid hh
    have b1 : ¬ n < 16 := by omega
    have b2 : ¬ (256 : Int) < n := by omega
    have b3 : decide (n < 16) = false := decide_eq_false b1
    have b4 : decide ((256 : Int) < n) = false := decide_eq_false b2
    have hn : 16 ≤ n ∧ n ≤ 256 := h
    clear hm h hh
    go_enter Tryd.func13, Tryd.ntmps13
    go_wp2_with fail
    go_ret
    refine ⟨ret_int ?_, rfl⟩
    have := HH.out
    first | exact this | (simp; omega) | omega
  · rw [holdN_out h]
    have hc : n < 16 ∨ (¬ n < 16 ∧ (256 : Int) < n) := by omega
    clear h
    rcases hc with hc | ⟨hc, hc2⟩
    · go_enter Tryd.func13, Tryd.ntmps13
      go_wp2_with fail
      go_ret
      exact ⟨rfl, rfl⟩
    · have hc3 : decide (n < 16) = false := decide_eq_false hc
      go_enter Tryd.func13, Tryd.ntmps13
      go_wp2_with fail
      go_ret
      exact ⟨rfl, rfl⟩

/-- a text of noughts alone -/
def Noughts (s : ByteArray) : Prop := ∀ i : Nat, i < s.size → byteT s i = 0
theorem noughts_empty {s : ByteArray} (h : s.size = 0) : Noughts s := fun i hi => absurd hi (by omega)
theorem byteT_ext (s : ByteArray) (a b i : Nat) (hb : b ≤ s.size) (h : a + i < b) : byteT (s.extract a b) i = byteT s (a + i) := by
  have h1 : i < (s.extract a b).size := by rw [ByteArray.size_extract]; omega
  rw [← byteT_get9 _ i h1, ← byteT_get9 s (a + i) (by omega), ByteArray.getElem_extract]
theorem noughts_tail {t : ByteArray} (h : 0 < t.size) (h0 : byteT t 0 = 0) : Noughts (t.extract 1 t.size) ↔ Noughts t := by
  constructor
  · intro hn i hi
    rcases Nat.eq_zero_or_pos i with rfl | h1
    · exact h0
    · have h2 := hn (i - 1) (by rw [ByteArray.size_extract]; omega)
      rw [byteT_ext t 1 t.size (i - 1) (Nat.le_refl _) (by omega)] at h2
      rwa [show 1 + (i - 1) = i by omega] at h2
  · intro hn i hi
    rw [ByteArray.size_extract] at hi
    rw [byteT_ext t 1 t.size i (Nat.le_refl _) (by omega)]
    exact hn _ (by omega)
instance (s : ByteArray) : Decidable (Noughts s) := Nat.decidableBallLT s.size fun i _ => byteT s i = 0

/-- what is left of s, its leading noughts struck -/
def TrimOk (t s : ByteArray) : Prop := t.size = 0 ↔ Noughts s
/-- a text's size, of a value -/
def szB : Value → Nat
  | .string s => s.size
  | _ => 0
theorem text_fullS {q : ByteArray} (h : ¬ q = ByteArray.empty) : q.toList.isEmpty = false := by
  rw [ByteArray.toList_eq]
  cases hq : q.data.toList with
  | nil =>
    exfalso
    apply h
    obtain ⟨d⟩ := q
    simp at hq
    subst hq
    rfl
  | cons => rfl

theorem trim_byte (s : ByteArray) (w : World) (hs : s.size ≤ 1000000) : Calls Tryd.prog 30 #[.string s, .int .u8 0] w fun e w' => (∃ t : ByteArray, e = .returned (.string t) ∧ TrimOk t s) ∧ w = w' := by
  go_enter Tryd.func30, Tryd.ntmps30
  go_wp2_with fail
  go_loopw [0] (fun tv wr => ∃ t : ByteArray, tv = .string t ∧ t.size ≤ s.size ∧ Hid (Noughts t ↔ Noughts s) ∧ wr = w) (fun tv _ => szB tv)
  case atStart => exact ⟨s, rfl, Nat.le_refl _, Iff.rfl, rfl⟩
  case round =>
    obtain ⟨t, rfl, hz, HN, rfl⟩ := hrel
    by_cases h0 : 0 < t.size
    · have hlt0 : (0 : Int) < (t.size : Int) := by omega
      have hb := byteT_get9 t 0 h0
      obtain ⟨c, hc⟩ : ∃ c : Nat, t[0].toNat = c := ⟨_, rfl⟩
      rw [hc] at hb
      have HB := Lib.hid hb
      clear hb
      by_cases hc0 : c = 0
      · subst hc0
        have HT : Hid (Noughts (t.extract 1 t.size) ↔ Noughts s) := (noughts_tail h0 HB.out.symm).trans HN.out
        have HZ : Hid ((t.extract 1 t.size).size ≤ s.size ∧ (t.extract 1 t.size).size < t.size) := by show _ ∧ _; rw [ByteArray.size_extract]; omega
        go_wp2_with fail
        go_roundw
        case rel => exact ⟨_, rfl, HZ.out.1, HT.out, trivial⟩
        case measure => exact HZ.out.2
      · have hcb : ((c : Int) == 0) = false := by simp; omega
        have HF : Hid (TrimOk t s) := ⟨fun h => by omega, fun h => absurd ((HN.out.2 h) 0 h0) (by rw [← HB.out]; omega)⟩
        go_wp2_with fail
        go_ret
        exact ⟨⟨_, rfl, HF.out⟩, rfl⟩
    · have hlt0 : ¬ (0 : Int) < (t.size : Int) := by omega
      have HF : Hid (TrimOk t s) := ⟨fun h => HN.out.1 (noughts_empty h), fun _ => by omega⟩
      go_wp2_with fail
      go_ret
      exact ⟨⟨_, rfl, HF.out⟩, rfl⟩

theorem trim_zero (s : ByteArray) (w : World) (hs : s.size ≤ 1000000) : Calls Tryd.prog 24 #[.string s, .string ⟨#[0]⟩] w fun e w' => (∃ t : ByteArray, e = .returned (.string t) ∧ TrimOk t s) ∧ w = w' := by
  by_cases h0 : s = ByteArray.empty
  · subst h0
    have HT : Hid (TrimOk ByteArray.empty ByteArray.empty) := ⟨fun h => noughts_empty h, fun _ => rfl⟩
    go_enter Tryd.func24, Tryd.ntmps24
    go_wp2_with fail
    go_ret
    exact ⟨⟨_, rfl, HT.out⟩, rfl⟩
  · have hemp := text_fullS h0
    have hh := trim_byte s w hs
    have HH := Lib.hid hh
    clear hh
    go_enter Tryd.func24, Tryd.ntmps24
    go_wp2_with fail
    refine HH.out.mono ?_
    rintro e w1 ⟨⟨t, rfl, ht⟩, rfl⟩
    have HT := Lib.hid ht
    clear ht HH
    go_wp2_with fail
    go_ret
    exact ⟨⟨_, rfl, HT.out⟩, rfl⟩

theorem sh_noughts (s : ByteArray) (w : World) (hs : s.size ≤ 1000000) : Calls Tryd.prog 15 #[.string s] w fun e w' => e = .returned (.bool (decide (Noughts s))) ∧ w = w' := by
  have hh := trim_zero s w hs
  have HH := Lib.hid hh
  clear hh
  go_enter Tryd.func15, Tryd.ntmps15
  go_wp2_with fail
  refine HH.out.mono ?_
  rintro e w1 ⟨⟨t, rfl, ht⟩, rfl⟩
  clear HH
  by_cases h0 : t = ByteArray.empty
  · subst h0
    have HT : Hid (decide (Noughts s) = true) := decide_eq_true (ht.1 rfl)
    clear ht
    go_wp2_with fail
    go_ret
    exact ⟨ret_bool HT.out.symm, rfl⟩
  · have hemp := text_fullS h0
    have HT : Hid (decide (Noughts s) = false) := decide_eq_false fun hn => h0 (by have := ht.2 hn; apply bytes_eq; exact List.eq_nil_of_length_eq_zero this)
    clear ht
    go_wp2_with fail
    go_ret
    exact ⟨ret_bool HT.out.symm, rfl⟩

end Go.Proofs.YtklbmlnghindjaaDoor
