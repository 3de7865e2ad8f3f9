/- The frame of TagWrites's last line. -/
import Derived.Test.YtgpegacbgjdogaaTagR5
namespace Go.Proofs.Ytgpegacbgjdogaa
open Go.RowKit

/-- the world while the last line of TagWrites runs -/
def CW (B0 b2 b9 b11 : Nat) (k l q e k' l' q' e' : Int) (w0 w : World) : Prop := Blk w b2 (ta k l q e) 23 ∧ Blk w b9 (ta k' l' q' e') 23 ∧ Blk w b11 (ta k' l' q' e') 23 ∧ Below B0 w0 w ∧ B0 ≤ w.heap.size
theorem CW.call {B0 b2 b9 b11 : Nat} {k l q e k' l' q' e' : Int} {w0 w w' : World} (h : CW B0 b2 b9 b11 k l q e k' l' q' e' w0 w) (hb : Below w.heap.size w w') : CW B0 b2 b9 b11 k l q e k' l' q' e' w0 w' :=
  ⟨h.1.after hb, h.2.1.after hb, h.2.2.1.after hb, h.2.2.2.1.trans (hb.mono h.2.2.2.2), Nat.le_trans h.2.2.2.2 hb.size⟩
theorem CW.drew {B0 b2 b9 b11 : Nat} {k l q e k' l' q' e' : Int} {w0 w : World} (h : CW B0 b2 b9 b11 k l q e k' l' q' e' w0 w) : CW B0 b2 b9 b11 k l q e k' l' q' e' w0 w.drew := h.call (Below.refl _ _).drew
theorem no_special {T : World → World → Prop} : ∀ (j : Nat) (a a' : Act) (w w' : World), (fun (_ : Nat) (_ : Act) (_ : World) => False) j a w → (∀ d ∈ ([] : List Tmp), a'.tmps.getD d undef = a.tmps.getD d undef) → T w w' → (fun (_ : Nat) (_ : Act) (_ : World) => False) j a' w' := fun _ _ _ _ _ h _ _ => h

/-- what each operation of the region TW leaves -/
def vsTW (k l q e k' l' q' e' : Int) (s : ByteArray) : List (Option (Tmp × Value)) :=
  [some (33, .string (encT k l q e)), some (34, .string (encT k l q e)), some (35, .bool true), some (36, .bool true), some (37, .int .i64 (encE k l q e)), some (38, .int .i64 (encE k l q e)), some (39, .bool true), some (40, .bool true), some (41, .bool true), some (42, .agg (ta k' l' q' e')), some (43, .agg (ta k' l' q' e')), some (44, .bool true), some (45, .bool true), some (46, .bool true), some (47, .int .i64 (decE s)), some (48, .int .i64 (decE s)), some (49, .bool true), some (50, .bool true), some (51, .bool true), some (52, .agg (ta k l q e)), some (53, .bool (mayB k l q e)), some (54, .agg (ta k l q e)), some (55, .bool (mayB k l q e)), some (56, .bool true), some (57, .bool true), some (58, .bool true), some (59, .bool true), some (60, .bool true), some (4, .bool true)]
/-- the frame while the region TW runs -/
def BaseTW (k l q e : Int) (s : ByteArray) (b2 b9 b11 : Nat) (a : Act) : Prop := ∃ u : Nat → Value, a = ⟨#[u 0, .string s, .pointer (some ⟨b2, 0, none⟩), u 3, u 4, .string (encT k l q e), .int .i64 (encE k l q e), .string (encT k l q e), .int .i64 (encE k l q e), .pointer (some ⟨b9, 0, none⟩), .int .i64 (decE s), .pointer (some ⟨b11, 0, none⟩), .int .i64 (decE s), u 13, u 14, u 15, u 16, u 17, u 18, u 19, u 20, u 21, u 22, u 23, u 24, u 25, u 26, u 27, u 28, u 29, u 30, u 31, u 32, u 33, u 34, u 35, u 36, u 37, u 38, u 39, u 40, u 41, u 42, u 43, u 44, u 45, u 46, u 47, u 48, u 49, u 50, u 51, u 52, u 53, u 54, u 55, u 56, u 57, u 58, u 59, u 60], []⟩
theorem BaseTW.of {k l q e : Int} {s : ByteArray} {b2 b9 b11 : Nat} (arr : Array Value) (h : arr = #[arr.getD 0 undef, .string s, .pointer (some ⟨b2, 0, none⟩), arr.getD 3 undef, arr.getD 4 undef, .string (encT k l q e), .int .i64 (encE k l q e), .string (encT k l q e), .int .i64 (encE k l q e), .pointer (some ⟨b9, 0, none⟩), .int .i64 (decE s), .pointer (some ⟨b11, 0, none⟩), .int .i64 (decE s), arr.getD 13 undef, arr.getD 14 undef, arr.getD 15 undef, arr.getD 16 undef, arr.getD 17 undef, arr.getD 18 undef, arr.getD 19 undef, arr.getD 20 undef, arr.getD 21 undef, arr.getD 22 undef, arr.getD 23 undef, arr.getD 24 undef, arr.getD 25 undef, arr.getD 26 undef, arr.getD 27 undef, arr.getD 28 undef, arr.getD 29 undef, arr.getD 30 undef, arr.getD 31 undef, arr.getD 32 undef, arr.getD 33 undef, arr.getD 34 undef, arr.getD 35 undef, arr.getD 36 undef, arr.getD 37 undef, arr.getD 38 undef, arr.getD 39 undef, arr.getD 40 undef, arr.getD 41 undef, arr.getD 42 undef, arr.getD 43 undef, arr.getD 44 undef, arr.getD 45 undef, arr.getD 46 undef, arr.getD 47 undef, arr.getD 48 undef, arr.getD 49 undef, arr.getD 50 undef, arr.getD 51 undef, arr.getD 52 undef, arr.getD 53 undef, arr.getD 54 undef, arr.getD 55 undef, arr.getD 56 undef, arr.getD 57 undef, arr.getD 58 undef, arr.getD 59 undef, arr.getD 60 undef]) : BaseTW k l q e s b2 b9 b11 ⟨arr, []⟩ := ⟨fun i => arr.getD i undef, by rw [← h]⟩
theorem BaseTW.put33 {k l q e : Int} {s : ByteArray} {b2 b9 b11 : Nat} (a : Act) (v : Value) (h : BaseTW k l q e s b2 b9 b11 a) : BaseTW k l q e s b2 b9 b11 (a.put (some 33) v) := by
  obtain ⟨u, rfl⟩ := h
  exact ⟨fun i => if i = 33 then v else u i, by kernel_rfl⟩
theorem BaseTW.put34 {k l q e : Int} {s : ByteArray} {b2 b9 b11 : Nat} (a : Act) (v : Value) (h : BaseTW k l q e s b2 b9 b11 a) : BaseTW k l q e s b2 b9 b11 (a.put (some 34) v) := by
  obtain ⟨u, rfl⟩ := h
  exact ⟨fun i => if i = 34 then v else u i, by kernel_rfl⟩
theorem BaseTW.put35 {k l q e : Int} {s : ByteArray} {b2 b9 b11 : Nat} (a : Act) (v : Value) (h : BaseTW k l q e s b2 b9 b11 a) : BaseTW k l q e s b2 b9 b11 (a.put (some 35) v) := by
  obtain ⟨u, rfl⟩ := h
  exact ⟨fun i => if i = 35 then v else u i, by kernel_rfl⟩
theorem BaseTW.put36 {k l q e : Int} {s : ByteArray} {b2 b9 b11 : Nat} (a : Act) (v : Value) (h : BaseTW k l q e s b2 b9 b11 a) : BaseTW k l q e s b2 b9 b11 (a.put (some 36) v) := by
  obtain ⟨u, rfl⟩ := h
  exact ⟨fun i => if i = 36 then v else u i, by kernel_rfl⟩
theorem BaseTW.put37 {k l q e : Int} {s : ByteArray} {b2 b9 b11 : Nat} (a : Act) (v : Value) (h : BaseTW k l q e s b2 b9 b11 a) : BaseTW k l q e s b2 b9 b11 (a.put (some 37) v) := by
  obtain ⟨u, rfl⟩ := h
  exact ⟨fun i => if i = 37 then v else u i, by kernel_rfl⟩
theorem BaseTW.put38 {k l q e : Int} {s : ByteArray} {b2 b9 b11 : Nat} (a : Act) (v : Value) (h : BaseTW k l q e s b2 b9 b11 a) : BaseTW k l q e s b2 b9 b11 (a.put (some 38) v) := by
  obtain ⟨u, rfl⟩ := h
  exact ⟨fun i => if i = 38 then v else u i, by kernel_rfl⟩
theorem BaseTW.put39 {k l q e : Int} {s : ByteArray} {b2 b9 b11 : Nat} (a : Act) (v : Value) (h : BaseTW k l q e s b2 b9 b11 a) : BaseTW k l q e s b2 b9 b11 (a.put (some 39) v) := by
  obtain ⟨u, rfl⟩ := h
  exact ⟨fun i => if i = 39 then v else u i, by kernel_rfl⟩
theorem BaseTW.put40 {k l q e : Int} {s : ByteArray} {b2 b9 b11 : Nat} (a : Act) (v : Value) (h : BaseTW k l q e s b2 b9 b11 a) : BaseTW k l q e s b2 b9 b11 (a.put (some 40) v) := by
  obtain ⟨u, rfl⟩ := h
  exact ⟨fun i => if i = 40 then v else u i, by kernel_rfl⟩
theorem BaseTW.put41 {k l q e : Int} {s : ByteArray} {b2 b9 b11 : Nat} (a : Act) (v : Value) (h : BaseTW k l q e s b2 b9 b11 a) : BaseTW k l q e s b2 b9 b11 (a.put (some 41) v) := by
  obtain ⟨u, rfl⟩ := h
  exact ⟨fun i => if i = 41 then v else u i, by kernel_rfl⟩
theorem BaseTW.put42 {k l q e : Int} {s : ByteArray} {b2 b9 b11 : Nat} (a : Act) (v : Value) (h : BaseTW k l q e s b2 b9 b11 a) : BaseTW k l q e s b2 b9 b11 (a.put (some 42) v) := by
  obtain ⟨u, rfl⟩ := h
  exact ⟨fun i => if i = 42 then v else u i, by kernel_rfl⟩
theorem BaseTW.put43 {k l q e : Int} {s : ByteArray} {b2 b9 b11 : Nat} (a : Act) (v : Value) (h : BaseTW k l q e s b2 b9 b11 a) : BaseTW k l q e s b2 b9 b11 (a.put (some 43) v) := by
  obtain ⟨u, rfl⟩ := h
  exact ⟨fun i => if i = 43 then v else u i, by kernel_rfl⟩
theorem BaseTW.put44 {k l q e : Int} {s : ByteArray} {b2 b9 b11 : Nat} (a : Act) (v : Value) (h : BaseTW k l q e s b2 b9 b11 a) : BaseTW k l q e s b2 b9 b11 (a.put (some 44) v) := by
  obtain ⟨u, rfl⟩ := h
  exact ⟨fun i => if i = 44 then v else u i, by kernel_rfl⟩
theorem BaseTW.put45 {k l q e : Int} {s : ByteArray} {b2 b9 b11 : Nat} (a : Act) (v : Value) (h : BaseTW k l q e s b2 b9 b11 a) : BaseTW k l q e s b2 b9 b11 (a.put (some 45) v) := by
  obtain ⟨u, rfl⟩ := h
  exact ⟨fun i => if i = 45 then v else u i, by kernel_rfl⟩
theorem BaseTW.put46 {k l q e : Int} {s : ByteArray} {b2 b9 b11 : Nat} (a : Act) (v : Value) (h : BaseTW k l q e s b2 b9 b11 a) : BaseTW k l q e s b2 b9 b11 (a.put (some 46) v) := by
  obtain ⟨u, rfl⟩ := h
  exact ⟨fun i => if i = 46 then v else u i, by kernel_rfl⟩
theorem BaseTW.put47 {k l q e : Int} {s : ByteArray} {b2 b9 b11 : Nat} (a : Act) (v : Value) (h : BaseTW k l q e s b2 b9 b11 a) : BaseTW k l q e s b2 b9 b11 (a.put (some 47) v) := by
  obtain ⟨u, rfl⟩ := h
  exact ⟨fun i => if i = 47 then v else u i, by kernel_rfl⟩
theorem BaseTW.put48 {k l q e : Int} {s : ByteArray} {b2 b9 b11 : Nat} (a : Act) (v : Value) (h : BaseTW k l q e s b2 b9 b11 a) : BaseTW k l q e s b2 b9 b11 (a.put (some 48) v) := by
  obtain ⟨u, rfl⟩ := h
  exact ⟨fun i => if i = 48 then v else u i, by kernel_rfl⟩
theorem BaseTW.put49 {k l q e : Int} {s : ByteArray} {b2 b9 b11 : Nat} (a : Act) (v : Value) (h : BaseTW k l q e s b2 b9 b11 a) : BaseTW k l q e s b2 b9 b11 (a.put (some 49) v) := by
  obtain ⟨u, rfl⟩ := h
  exact ⟨fun i => if i = 49 then v else u i, by kernel_rfl⟩
theorem BaseTW.put50 {k l q e : Int} {s : ByteArray} {b2 b9 b11 : Nat} (a : Act) (v : Value) (h : BaseTW k l q e s b2 b9 b11 a) : BaseTW k l q e s b2 b9 b11 (a.put (some 50) v) := by
  obtain ⟨u, rfl⟩ := h
  exact ⟨fun i => if i = 50 then v else u i, by kernel_rfl⟩
theorem BaseTW.put51 {k l q e : Int} {s : ByteArray} {b2 b9 b11 : Nat} (a : Act) (v : Value) (h : BaseTW k l q e s b2 b9 b11 a) : BaseTW k l q e s b2 b9 b11 (a.put (some 51) v) := by
  obtain ⟨u, rfl⟩ := h
  exact ⟨fun i => if i = 51 then v else u i, by kernel_rfl⟩
theorem BaseTW.put52 {k l q e : Int} {s : ByteArray} {b2 b9 b11 : Nat} (a : Act) (v : Value) (h : BaseTW k l q e s b2 b9 b11 a) : BaseTW k l q e s b2 b9 b11 (a.put (some 52) v) := by
  obtain ⟨u, rfl⟩ := h
  exact ⟨fun i => if i = 52 then v else u i, by kernel_rfl⟩
theorem BaseTW.put53 {k l q e : Int} {s : ByteArray} {b2 b9 b11 : Nat} (a : Act) (v : Value) (h : BaseTW k l q e s b2 b9 b11 a) : BaseTW k l q e s b2 b9 b11 (a.put (some 53) v) := by
  obtain ⟨u, rfl⟩ := h
  exact ⟨fun i => if i = 53 then v else u i, by kernel_rfl⟩
theorem BaseTW.put54 {k l q e : Int} {s : ByteArray} {b2 b9 b11 : Nat} (a : Act) (v : Value) (h : BaseTW k l q e s b2 b9 b11 a) : BaseTW k l q e s b2 b9 b11 (a.put (some 54) v) := by
  obtain ⟨u, rfl⟩ := h
  exact ⟨fun i => if i = 54 then v else u i, by kernel_rfl⟩
theorem BaseTW.put55 {k l q e : Int} {s : ByteArray} {b2 b9 b11 : Nat} (a : Act) (v : Value) (h : BaseTW k l q e s b2 b9 b11 a) : BaseTW k l q e s b2 b9 b11 (a.put (some 55) v) := by
  obtain ⟨u, rfl⟩ := h
  exact ⟨fun i => if i = 55 then v else u i, by kernel_rfl⟩
theorem BaseTW.put56 {k l q e : Int} {s : ByteArray} {b2 b9 b11 : Nat} (a : Act) (v : Value) (h : BaseTW k l q e s b2 b9 b11 a) : BaseTW k l q e s b2 b9 b11 (a.put (some 56) v) := by
  obtain ⟨u, rfl⟩ := h
  exact ⟨fun i => if i = 56 then v else u i, by kernel_rfl⟩
theorem BaseTW.put57 {k l q e : Int} {s : ByteArray} {b2 b9 b11 : Nat} (a : Act) (v : Value) (h : BaseTW k l q e s b2 b9 b11 a) : BaseTW k l q e s b2 b9 b11 (a.put (some 57) v) := by
  obtain ⟨u, rfl⟩ := h
  exact ⟨fun i => if i = 57 then v else u i, by kernel_rfl⟩
theorem BaseTW.put58 {k l q e : Int} {s : ByteArray} {b2 b9 b11 : Nat} (a : Act) (v : Value) (h : BaseTW k l q e s b2 b9 b11 a) : BaseTW k l q e s b2 b9 b11 (a.put (some 58) v) := by
  obtain ⟨u, rfl⟩ := h
  exact ⟨fun i => if i = 58 then v else u i, by kernel_rfl⟩
theorem BaseTW.put59 {k l q e : Int} {s : ByteArray} {b2 b9 b11 : Nat} (a : Act) (v : Value) (h : BaseTW k l q e s b2 b9 b11 a) : BaseTW k l q e s b2 b9 b11 (a.put (some 59) v) := by
  obtain ⟨u, rfl⟩ := h
  exact ⟨fun i => if i = 59 then v else u i, by kernel_rfl⟩
theorem BaseTW.put60 {k l q e : Int} {s : ByteArray} {b2 b9 b11 : Nat} (a : Act) (v : Value) (h : BaseTW k l q e s b2 b9 b11 a) : BaseTW k l q e s b2 b9 b11 (a.put (some 60) v) := by
  obtain ⟨u, rfl⟩ := h
  exact ⟨fun i => if i = 60 then v else u i, by kernel_rfl⟩
theorem BaseTW.put4 {k l q e : Int} {s : ByteArray} {b2 b9 b11 : Nat} (a : Act) (v : Value) (h : BaseTW k l q e s b2 b9 b11 a) : BaseTW k l q e s b2 b9 b11 (a.put (some 4) v) := by
  obtain ⟨u, rfl⟩ := h
  exact ⟨fun i => if i = 4 then v else u i, by kernel_rfl⟩

end Go.Proofs.Ytgpegacbgjdogaa
