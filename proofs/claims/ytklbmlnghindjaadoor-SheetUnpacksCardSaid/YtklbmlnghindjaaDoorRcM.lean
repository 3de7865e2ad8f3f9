/- Records and their bytes: what the document asks of May, Put and Take, and what follows from it. -/
import Derived.Test.YtklbmlnghindjaaDoorTagM
import Derived.Test.YtklbmlnghindjaaDoorReg
import Derived.Laws.StructEq
namespace Go.Proofs.YtklbmlnghindjaaDoor
set_option maxRecDepth 100000
open Go.RowKit

/-- a record's cells -/
def ra (k a b : Int) : Array Value := #[.int .i64 k, .int .i64 a, .int .i64 b]
theorem ra_one (k a b : Int) : (ra k a b).all (·.oneCell') = true := by
  rw [Array.all_eq_true_iff_forall_mem]
  intro v hv
  simp [ra] at hv
  rcases hv with rfl | rfl | rfl <;> rfl
theorem size_rec : (Tryd.prog.info? 32).map (·.size) = some 3 := by kernel_rfl
/-- a record that may be -/
def MayR (k a b : Int) : Prop := ((k = 1 ∨ k = 2) ∧ 0 ≤ a ∧ a ≤ 4096 ∧ 0 ≤ b ∧ b ≤ 281474976710655) ∨ (k = 3 ∧ 0 ≤ a ∧ a ≤ 63 ∧ 1 ≤ b ∧ b ≤ 4294967295) ∨ (k = 4 ∧ 0 ≤ a ∧ a ≤ 63 ∧ 1 ≤ b ∧ b ≤ 2)
instance (k a b : Int) : Decidable (MayR k a b) := by unfold MayR; infer_instance
def mayR (k a b : Int) : Bool := decide (MayR k a b)
theorem mayR_iff (k a b : Int) : mayR k a b = true ↔ MayR k a b := decide_eq_true_iff
theorem may_bd {k a b : Int} (h : MayR k a b) : 1 ≤ k ∧ k ≤ 4 ∧ 0 ≤ a ∧ a ≤ 4096 ∧ 0 ≤ b ∧ b ≤ 281474976710655 := by
  rcases h with ⟨h1 | h1, h2, h3, h4, h5⟩ | ⟨h1, h2, h3, h4, h5⟩ | ⟨h1, h2, h3, h4, h5⟩ <;> omega
/-- what a number asks that has room in n bytes -/
def InB (v : Int) (n : Nat) : Prop := 0 ≤ v ∧ v < p2 (8 * n) ∧ v ≤ 9223372036854775807
theorem may_in {k a b : Int} (h : MayR k a b) : InB k 1 ∧ InB a 2 ∧ InB b 6 := by
  obtain ⟨h1, h2, h3, h4, h5, h6⟩ := may_bd h
  unfold InB
  rw [show p2 (8 * 1) = 256 by decide, show p2 (8 * 2) = 65536 by decide, show p2 (8 * 6) = 281474976710656 by decide]
  omega
/-- a record's bytes -/
def recS (k a b : Int) : ByteArray := (leS k 1 ++ leS a 2) ++ leS b 6
theorem recS_size (k a b : Int) : (recS k a b).size = 9 := by unfold recS; rw [ByteArray.size_append, ByteArray.size_append, leS_size, leS_size, leS_size]
def kR (s : ByteArray) : Int := numS (s.extract 0 1)
def aR (s : ByteArray) : Int := numS (s.extract 1 3)
def bR (s : ByteArray) : Int := numS (s.extract 3 9)
/-- a text that is a record's bytes -/
def OkR (s : ByteArray) : Prop := s.size = 9 ∧ MayR (kR s) (aR s) (bR s)
instance (s : ByteArray) : Decidable (OkR s) := by unfold OkR; infer_instance
theorem leS_data (v : Int) (n : Nat) : (leS v n).data.toList = le v n := rfl
theorem rec_parts (k a b : Int) : (recS k a b).extract 0 1 = leS k 1 ∧ (recS k a b).extract 1 3 = leS a 2 ∧ (recS k a b).extract 3 9 = leS b 6 := by
  refine ⟨?_, ?_, ?_⟩ <;> (apply bytes_eq; rw [list_extract]; unfold recS; simp only [ByteArray.data_append, Array.toList_append, leS_data]; rfl)
theorem rec_fields {k a b : Int} (h : MayR k a b) : kR (recS k a b) = k ∧ aR (recS k a b) = a ∧ bR (recS k a b) = b := by
  obtain ⟨e1, e2, e3⟩ := rec_parts k a b
  obtain ⟨⟨k0, k1, _⟩, ⟨a0, a1, _⟩, ⟨b0, b1, _⟩⟩ := may_in h
  unfold kR aR bR
  rw [e1, e2, e3]
  refine ⟨numS_leS _ _ ?_, numS_leS _ _ ?_, numS_leS _ _ ?_⟩ <;> rw [rest_p2] <;> exact Int.ediv_eq_zero_of_lt (by assumption) (by assumption)
theorem rec_ok {k a b : Int} (h : MayR k a b) : OkR (recS k a b) := by
  obtain ⟨e1, e2, e3⟩ := rec_fields h
  refine ⟨recS_size _ _ _, ?_⟩
  rw [e1, e2, e3]; exact h
theorem rec_inj {k a b k' a' b' : Int} (h : MayR k a b) (h' : MayR k' a' b') (he : recS k a b = recS k' a' b') : k = k' ∧ a = a' ∧ b = b' := by
  have hf := rec_fields h; have hf' := rec_fields h'
  rw [he] at hf
  exact ⟨hf.1.symm.trans hf'.1, hf.2.1.symm.trans hf'.2.1, hf.2.2.symm.trans hf'.2.2⟩
theorem rec_again {s : ByteArray} (h : s.size = 9) : recS (kR s) (aR s) (bR s) = s := by
  have n1 : (s.extract 0 1).size = 1 := by rw [ByteArray.size_extract]; omega
  have n2 : (s.extract 1 3).size = 2 := by rw [ByteArray.size_extract]; omega
  have n6 : (s.extract 3 9).size = 6 := by rw [ByteArray.size_extract]; omega
  have f1 := leS_numS (s.extract 0 1); have f2 := leS_numS (s.extract 1 3); have f6 := leS_numS (s.extract 3 9)
  rw [n1] at f1; rw [n2] at f2; rw [n6] at f6
  unfold recS kR aR bR
  rw [f1, f2, f6]
  apply bytes_eq
  simp only [ByteArray.data_append, Array.toList_append, list_extract]
  have hl : s.data.toList.length = 9 := by simpa using h
  generalize s.data.toList = t at *
  match t, hl with
  | [b0, b1, b2, b3, b4, b5, b6, b7, b8], _ => simp

theorem byteT_get9 (s : ByteArray) (i : Nat) (h : i < s.size) : ((s[i].toNat : Nat) : Int) = byteT s i := by
  unfold byteT
  have : s.data.toList.getD i 0 = s[i] := by simp [List.getD, h]; rfl
  rw [this]
theorem kR_byte (s : ByteArray) (h : 0 < s.size) : kR s = (s[0].toNat : Int) := by
  have h1 : (s.extract 0 1).size = 1 := by rw [ByteArray.size_extract]; omega
  have e := numTo_succ (s.extract 0 1) 0 (by omega)
  unfold kR numS
  rw [h1]
  show numTo (s.extract 0 1) (0 + 1) = _
  rw [e, numTo_zero]
  simp [ByteArray.getElem_extract, show p2 0 = 1 by decide]

/-- what Put and Take answer, as plain functions -/
def putRT (k a b : Int) : ByteArray := if MayR k a b then recS k a b else ByteArray.empty
def putRE (k a b : Int) : Int := if MayR k a b then 0 else 110
def takeA (s : ByteArray) : Array Value := if OkR s then ra (kR s) (aR s) (bR s) else ra 0 0 0
def takeE (s : ByteArray) : Int := if OkR s then 0 else 3
def PutP (k a b : Int) (w : World) (r : Ending) (w' : World) : Prop := r = .returned (.tuple #[.string (putRT k a b), .int .i64 (putRE k a b)]) ∧ Below w.heap.size w w'
def TakeP (s : ByteArray) (w : World) (r : Ending) (w' : World) : Prop := r = .returned (.tuple #[.agg (takeA s), .int .i64 (takeE s)]) ∧ Below w.heap.size w w'
def MayP (k a b : Int) (w : World) (r : Ending) (w' : World) : Prop := r = .returned (.bool (mayR k a b)) ∧ Below w.heap.size w w'
theorem takeA_ra (s : ByteArray) : ∃ k a b, takeA s = ra k a b := by unfold takeA; split <;> exact ⟨_, _, _, rfl⟩

/-- the record's block, and nothing below has turned -/
def CR (B : Nat) (k a b : Int) (w0 w : World) : Prop := Blk w B (ra k a b) 32 ∧ Below B w0 w
theorem CR.call {B : Nat} {k a b : Int} {w0 w w' : World} (h : CR B k a b w0 w) (hb : Below w.heap.size w w') : CR B k a b w0 w' := ⟨h.1.after hb, h.2.trans (hb.mono (Nat.le_of_lt h.1.lt))⟩
theorem no_specialR {T : World → World → Prop} : ∀ (j : Nat) (a a' : Act) (w w' : World), (fun (_ : Nat) (_ : Act) (_ : World) => False) j a w → (∀ d ∈ ([] : List Tmp), a'.tmps.getD d undef = a.tmps.getD d undef) → T w w' → (fun (_ : Nat) (_ : Act) (_ : World) => False) j a' w' := fun _ _ _ _ _ h _ _ => h

/-- a block of a record in the making -/
def SpR (B : Nat) (f : Array Value) (j : Nat) (a : Act) (w : World) : Prop := ∃ g cs, B < g ∧ a.tmps.getD 4 undef = .pointer (some ⟨g, 0, none⟩) ∧ Blk w g cs 32 ∧ cs.size = 3 ∧ (j = 11 → cs = f)
def TR3 (B : Nat) (f : Array Value) (w w' : World) : Prop := Below (B + 1) w w' ∧ ∀ g cs, B < g → Blk w g cs 32 → cs.size = 3 → ∃ cs', Blk w' g cs' 32 ∧ cs'.size = 3 ∧ (cs = f → cs' = f)
theorem TR3.of {B : Nat} {f : Array Value} {w w' : World} (hb : Below w.heap.size w w') (hB : B < w.heap.size) : TR3 B f w w' :=
  ⟨hb.mono hB, fun _ cs _ h hs => ⟨cs, h.after hb, hs, id⟩⟩
theorem TR3.store {B g : Nat} {f cs : Array Value} {w : World} (hg : B < g) (h : Blk w g cs 32) (hf : f.size = 3) : TR3 B f w (w.setRow g f) :=
  ⟨below_put hg f (Below.refl _ _), fun g' cs' _ h' hs' => by
    by_cases e : g = g'
    · subst e; exact ⟨f, h.put f, hf, fun _ => rfl⟩
    · exact ⟨cs', h'.put_other e f, hs', id⟩⟩
theorem SpR.ext {B : Nat} {f : Array Value} : ∀ j a a' w w', SpR B f j a w → (∀ d ∈ [4], a'.tmps.getD d undef = a.tmps.getD d undef) → TR3 B f w w' → SpR B f j a' w' := by
  rintro j a a' w w' ⟨g, cs, hg, h1, h2, h3, h4⟩ hd hT
  obtain ⟨cs', h5, h6, h7⟩ := hT.2 g cs hg h2 h3
  exact ⟨g, cs', hg, (hd 4 (by simp)).trans h1, h5, h6, fun h => h7 (h4 h)⟩
/-- the world while Take's region runs -/
def CRT (w0 w : World) : Prop := Blk w w0.heap.size (ra 0 0 0) 32 ∧ Below w0.heap.size w0 w

/-- are two records the same? -/
def sameR (k a b k' a' b' : Int) : Bool := k == k' && a == a' && b == b'
theorem sameR_self (k a b : Int) : sameR k a b k a b = true := by simp [sameR]
theorem sameR_iff (k a b k' a' b' : Int) : sameR k a b k' a' b' = true ↔ k = k' ∧ a = a' ∧ b = b' := by simp [sameR, and_assoc]
theorem fields_rec (k a b k' a' b' : Int) (w : World) : Sem.run Tryd.prog (Op.eqFields 9999 (ra k a b) (ra k' a' b') (Tryd.prog.fieldsOf 32).toList) w = .ok (sameR k a b k' a' b') w := by
  simp only [Program.fieldsOf, Tryd.underlying32]
  simp [Op.eqFields, ra, part, isAgg, run_underlying Tryd.underlying3, run_equalIn_int _ _ _ _ _ _ _ Tryd.underlying3, sameR]
  by_cases h1 : k = k' <;> by_cases h2 : a = a' <;> by_cases h3 : b = b' <;> simp [h1, h2, h3]
theorem eq_rec (k a b k' a' b' : Int) (w : World) : Sem.run Tryd.prog (binOp .eql 32 (.agg (ra k a b)) (.agg (ra k' a' b'))) w = .ok (.bool (sameR k a b k' a' b')) w := by
  rw [run_eql_struct, run_equalIn_agg _ _ _ _ _ (by kernel_rfl) (by kernel_rfl), fields_rec]
  rfl
theorem wp_eql_rec {o : Oper} {A : Act} {w : World} {K : Act → World → Prop} {Q : Exit → Act → World → Prop} (x y : Operand) (ho : o.op = .binOp .eql 32 x y 32)
    (k a b k' a' b' : Int) (hx : A.eval x = .agg (ra k a b)) (hy : A.eval y = .agg (ra k' a' b')) (h : K (A.put o.dst (.bool (sameR k a b k' a' b'))) w) : o.wp Tryd.prog A w K Q := by
  unfold Oper.wp execOp
  simp only [ho, hx, hy, Sem.run_bind, run_eqGuard_agg (P := Tryd.prog) w .eql 32 x y _ _ (by kernel_rfl), Result.andThen_ok, eq_rec]
  exact h
theorem wpList_eql_rec {ops : Array Oper} {rest : List Oper} {o : Oper} {A : Act} {w : World} {Q : Exit → Act → World → Prop} (hgd : o.guard = none) (x y : Operand) (ho : o.op = .binOp .eql 32 x y 32)
    (k a b k' a' b' : Int) (hx : A.eval x = .agg (ra k a b)) (hy : A.eval y = .agg (ra k' a' b')) (h : wpList Tryd.prog ops Q rest (A.put o.dst (.bool (sameR k a b k' a' b'))) w) : wpList Tryd.prog ops Q (o :: rest) A w :=
  wpList_plain hgd fun _ hK => wp_eql_rec x y ho k a b k' a' b' hx hy (hK _ _ h)

end Go.Proofs.YtklbmlnghindjaaDoor
