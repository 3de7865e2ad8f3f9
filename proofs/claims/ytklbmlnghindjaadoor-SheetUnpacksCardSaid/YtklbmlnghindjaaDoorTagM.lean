/- Tags and their bytes: what the document asks of Encode, Decode and May, and what follows from it. -/
import Derived.Test.YtklbmlnghindjaaDoorRef1P
namespace Go.Proofs.YtklbmlnghindjaaDoor
open Go.RowKit

/-- a tag that may be -/
def MayT (k l q e : Int) : Prop := 1 ≤ k ∧ k ≤ 4 ∧ 0 ≤ l ∧ l ≤ 4096 ∧ 0 ≤ q ∧ q ≤ 281474976710655 ∧ 0 ≤ e ∧ e ≤ 4294967295
instance (k l q e : Int) : Decidable (MayT k l q e) := by unfold MayT; infer_instance
def mayB (k l q e : Int) : Bool := decide (MayT k l q e)
theorem mayB_iff (k l q e : Int) : mayB k l q e = true ↔ MayT k l q e := decide_eq_true_iff
/-- a tag's bytes -/
def tagL (k l q e : Int) : List UInt8 := 27 :: UInt8.ofNat k.toNat :: (le l 2 ++ le q 6 ++ le e 4 ++ [0, 0])
def tagS (k l q e : Int) : ByteArray := ⟨(tagL k l q e).toArray⟩
theorem tagS_size (k l q e : Int) : (tagS k l q e).size = 16 := rfl
def byteT (s : ByteArray) (i : Nat) : Int := ((s.data.toList.getD i 0).toNat : Int)
def lT (s : ByteArray) : Int := numS (s.extract 2 4)
def qT (s : ByteArray) : Int := numS (s.extract 4 10)
def eT (s : ByteArray) : Int := numS (s.extract 10 14)
/-- a text that is a tag's bytes -/
def FormT (s : ByteArray) : Prop := s.size = 16 ∧ byteT s 0 = 27 ∧ byteT s 14 = 0 ∧ byteT s 15 = 0
def OkT (s : ByteArray) : Prop := FormT s ∧ MayT (byteT s 1) (lT s) (qT s) (eT s)
instance (s : ByteArray) : Decidable (FormT s) := by unfold FormT; infer_instance
instance (s : ByteArray) : Decidable (OkT s) := by unfold OkT; infer_instance
theorem list_extract (s : ByteArray) (i j : Nat) : (s.extract i j).data.toList = (s.data.toList.take j).drop i := by
  rw [ByteArray.data_extract, Array.toList_extract, List.extract_eq_take_drop, List.take_drop]
  by_cases h : i ≤ j
  · rw [show i + (j - i) = j by omega]
  · rw [List.drop_eq_nil_of_le (by rw [List.length_take]; omega), List.drop_eq_nil_of_le (by rw [List.length_take]; omega)]
theorem tag_bytes {k l q e : Int} (h : MayT k l q e) : byteT (tagS k l q e) 0 = 27 ∧ byteT (tagS k l q e) 1 = k ∧ byteT (tagS k l q e) 14 = 0 ∧ byteT (tagS k l q e) 15 = 0 := by
  refine ⟨rfl, ?_, rfl, rfl⟩
  obtain ⟨h1, h2, _⟩ := h
  show (((UInt8.ofNat k.toNat).toNat : Nat) : Int) = k
  simp; omega
theorem tag_fields {k l q e : Int} (h : MayT k l q e) : lT (tagS k l q e) = l ∧ qT (tagS k l q e) = q ∧ eT (tagS k l q e) = e := by
  obtain ⟨_, _, h3, h4, h5, h6, h7, h8⟩ := h
  have e1 : (tagS k l q e).extract 2 4 = leS l 2 := by
    apply bytes_eq; rw [list_extract]; rfl
  have e2 : (tagS k l q e).extract 4 10 = leS q 6 := by
    apply bytes_eq; rw [list_extract]; rfl
  have e3 : (tagS k l q e).extract 10 14 = leS e 4 := by
    apply bytes_eq; rw [list_extract]; rfl
  unfold lT qT eT
  rw [e1, e2, e3]
  refine ⟨numS_leS _ _ ?_, numS_leS _ _ ?_, numS_leS _ _ ?_⟩ <;> rw [rest_p2] <;> refine Int.ediv_eq_zero_of_lt (by omega) ?_
  · rw [show p2 (8 * 2) = 65536 by decide]; omega
  · rw [show p2 (8 * 6) = 281474976710656 by decide]; omega
  · rw [show p2 (8 * 4) = 4294967296 by decide]; omega
theorem tag_ok {k l q e : Int} (h : MayT k l q e) : OkT (tagS k l q e) := by
  have hb := tag_bytes h
  have hf := tag_fields h
  refine ⟨⟨rfl, hb.1, hb.2.2.1, hb.2.2.2⟩, ?_⟩
  rw [hb.2.1, hf.1, hf.2.1, hf.2.2]; exact h
theorem tag_inj {k l q e k' l' q' e' : Int} (h : MayT k l q e) (h' : MayT k' l' q' e') (he : tagS k l q e = tagS k' l' q' e') : k = k' ∧ l = l' ∧ q = q' ∧ e = e' := by
  have hb := tag_bytes h; have hf := tag_fields h
  have hb' := tag_bytes h'; have hf' := tag_fields h'
  rw [he] at hb hf
  exact ⟨hb.2.1.symm.trans hb'.2.1, hf.1.symm.trans hf'.1, hf.2.1.symm.trans hf'.2.1, hf.2.2.symm.trans hf'.2.2⟩
theorem tag_again {s : ByteArray} (h : OkT s) : tagS (byteT s 1) (lT s) (qT s) (eT s) = s := by
  obtain ⟨⟨hz, h0, h14, h15⟩, _⟩ := h
  apply bytes_eq
  show tagL _ _ _ _ = s.data.toList
  unfold tagL lT qT eT
  have hl : s.data.toList.length = 16 := by simpa using hz
  have n2 : (s.extract 2 4).size = 2 := by rw [ByteArray.size_extract]; omega
  have n6 : (s.extract 4 10).size = 6 := by rw [ByteArray.size_extract]; omega
  have n4 : (s.extract 10 14).size = 4 := by rw [ByteArray.size_extract]; omega
  have f2 := leS_numS (s.extract 2 4); have f6 := leS_numS (s.extract 4 10); have f4 := leS_numS (s.extract 10 14)
  rw [n2] at f2; rw [n6] at f6; rw [n4] at f4
  have g2 : le (numS (s.extract 2 4)) 2 = (s.data.toList.take 4).drop 2 := (congrArg (fun t : ByteArray => t.data.toList) f2).trans (list_extract s 2 4)
  have g6 : le (numS (s.extract 4 10)) 6 = (s.data.toList.take 10).drop 4 := (congrArg (fun t : ByteArray => t.data.toList) f6).trans (list_extract s 4 10)
  have g4 : le (numS (s.extract 10 14)) 4 = (s.data.toList.take 14).drop 10 := (congrArg (fun t : ByteArray => t.data.toList) f4).trans (list_extract s 10 14)
  rw [g2, g6, g4]
  unfold byteT at *
  generalize s.data.toList = t at *
  match t, hl with
  | [b0, b1, b2, b3, b4, b5, b6, b7, b8, b9, b10, b11, b12, b13, b14, b15], _ =>
    simp only [List.getD_cons_zero, List.getD_cons_succ] at h0 h14 h15 ⊢
    have e0 : b0 = 27 := UInt8.toNat_inj.1 (by rw [show (27 : UInt8).toNat = 27 from rfl]; omega)
    have e14 : b14 = 0 := UInt8.toNat_inj.1 (by rw [show (0 : UInt8).toNat = 0 from rfl]; omega)
    have e15 : b15 = 0 := UInt8.toNat_inj.1 (by rw [show (0 : UInt8).toNat = 0 from rfl]; omega)
    subst e0; subst e14; subst e15
    simp

end Go.Proofs.YtklbmlnghindjaaDoor
