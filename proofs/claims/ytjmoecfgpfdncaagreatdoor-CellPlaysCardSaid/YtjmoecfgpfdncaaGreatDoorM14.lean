/- Texts of one claim, merged: TagC3, TagC1, FrQ, FrD2, FrD1, FrD3, FrC1, CeP, CeP2, CeL4, CeL5. -/
import Derived.Test.YtjmoecfgpfdncaaGreatDoorM13
import Derived.Test.YtjmoecfgpfdncaaGreatDoorM12
import Derived.Test.YtjmoecfgpfdncaaGreatDoorM7
import Derived.Test.YtjmoecfgpfdncaaGreatDoorM11
import Derived.Test.YtjmoecfgpfdncaaGreatDoorM3
import Derived.Test.YtjmoecfgpfdncaaGreatDoorM6
import Derived.Test.YtjmoecfgpfdncaaGreatDoorM10

/- Package tag, walked: Decode. -/
namespace Go.Proofs.YtjmoecfgpfdncaaGreatDoor
set_option maxRecDepth 100000
open Go.RowKit

theorem form_iff (s : ByteArray) (h : s.size = 16) : FormT s ↔ byteT s 0 = 27 ∧ s.extract 14 16 = ⟨#[0, 0]⟩ := by
  have hl : s.data.toList.length = 16 := by simpa using h
  have he : s.extract 14 16 = ⟨#[0, 0]⟩ ↔ (s.data.toList.take 16).drop 14 = [0, 0] := by
    constructor
    · intro e
      rw [← list_extract, e]
    · intro e
      apply bytes_eq
      rw [list_extract, e]
  rw [he]
  unfold FormT byteT
  generalize s.data.toList = t at *
  match t, hl with
  | [b0, b1, b2, b3, b4, b5, b6, b7, b8, b9, b10, b11, b12, b13, b14, b15], _ =>
    simp only [List.getD_cons_zero, List.getD_cons_succ, h, true_and, List.take, List.drop, List.cons.injEq, and_true]
    constructor
    · rintro ⟨x, y, z⟩
      refine ⟨x, UInt8.toNat_inj.1 ?_, UInt8.toNat_inj.1 ?_⟩
      · rw [show (0 : UInt8).toNat = 0 from rfl]; omega
      · rw [show (0 : UInt8).toNat = 0 from rfl]; omega
    · rintro ⟨x, rfl, rfl⟩
      exact ⟨x, rfl, rfl⟩
theorem tag_num_one (s : ByteArray) (h : s.size = 16) : numS (s.extract 1 2) = byteT s 1 := by
  have h1 : (s.extract 1 2).size = 1 := by rw [ByteArray.size_extract]; omega
  have e := numTo_succ (s.extract 1 2) 0 (by omega)
  have e2 : ((s.extract 1 2)[0].toNat : Int) = byteT s 1 := by
    rw [← byteT_get s 1 (by omega)]
    simp [ByteArray.getElem_extract]
  unfold numS
  rw [h1]
  show numTo (s.extract 1 2) (0 + 1) = _
  rw [e, numTo_zero, e2]
  simp [show p2 0 = 1 by decide]

/-- what each operation of the region TD leaves -/
def vsTD (s s1 s2 s6 s4 : ByteArray) (k x y z : Int) : List (Option (Tmp × Value)) :=
  [some (19, .string s), some (20, .string s1), some (21, .int .i64 k), some (22, .string s), some (23, .string s2), some (24, .int .i64 x), some (25, .string s), some (26, .string s6), some (27, .int .i64 y), some (28, .string s), some (29, .string s4), some (30, .int .i64 z), some (31, .agg (ta k x y z)), none, none]
/-- the frame while the region TD runs -/
def BaseTD (s : ByteArray) (B : Nat) (a : Act) : Prop := ∃ u : Nat → Value, a = ⟨#[.string s, u 1, .pointer (some ⟨B, 0, none⟩), u 3, u 4, u 5, u 6, u 7, u 8, u 9, u 10, u 11, u 12, u 13, u 14, u 15, u 16, u 17, u 18, u 19, u 20, u 21, u 22, u 23, u 24, u 25, u 26, u 27, u 28, u 29, u 30, u 31, u 32, u 33, u 34, u 35, u 36], []⟩
theorem BaseTD.of {s : ByteArray} {B : Nat} (arr : Array Value) (h : arr = #[.string s, arr.getD 1 undef, .pointer (some ⟨B, 0, none⟩), arr.getD 3 undef, arr.getD 4 undef, arr.getD 5 undef, arr.getD 6 undef, arr.getD 7 undef, arr.getD 8 undef, arr.getD 9 undef, arr.getD 10 undef, arr.getD 11 undef, arr.getD 12 undef, arr.getD 13 undef, arr.getD 14 undef, arr.getD 15 undef, arr.getD 16 undef, arr.getD 17 undef, arr.getD 18 undef, arr.getD 19 undef, arr.getD 20 undef, arr.getD 21 undef, arr.getD 22 undef, arr.getD 23 undef, arr.getD 24 undef, arr.getD 25 undef, arr.getD 26 undef, arr.getD 27 undef, arr.getD 28 undef, arr.getD 29 undef, arr.getD 30 undef, arr.getD 31 undef, arr.getD 32 undef, arr.getD 33 undef, arr.getD 34 undef, arr.getD 35 undef, arr.getD 36 undef]) : BaseTD s B ⟨arr, []⟩ := ⟨fun i => arr.getD i undef, by rw [← h]⟩
theorem BaseTD.put19 {s : ByteArray} {B : Nat} (a : Act) (v : Value) (h : BaseTD s B a) : BaseTD s B (a.put (some 19) v) := by
  obtain ⟨u, rfl⟩ := h
  exact ⟨fun i => if i = 19 then v else u i, by kernel_rfl⟩
theorem BaseTD.put20 {s : ByteArray} {B : Nat} (a : Act) (v : Value) (h : BaseTD s B a) : BaseTD s B (a.put (some 20) v) := by
  obtain ⟨u, rfl⟩ := h
  exact ⟨fun i => if i = 20 then v else u i, by kernel_rfl⟩
theorem BaseTD.put21 {s : ByteArray} {B : Nat} (a : Act) (v : Value) (h : BaseTD s B a) : BaseTD s B (a.put (some 21) v) := by
  obtain ⟨u, rfl⟩ := h
  exact ⟨fun i => if i = 21 then v else u i, by kernel_rfl⟩
theorem BaseTD.put22 {s : ByteArray} {B : Nat} (a : Act) (v : Value) (h : BaseTD s B a) : BaseTD s B (a.put (some 22) v) := by
  obtain ⟨u, rfl⟩ := h
  exact ⟨fun i => if i = 22 then v else u i, by kernel_rfl⟩
theorem BaseTD.put23 {s : ByteArray} {B : Nat} (a : Act) (v : Value) (h : BaseTD s B a) : BaseTD s B (a.put (some 23) v) := by
  obtain ⟨u, rfl⟩ := h
  exact ⟨fun i => if i = 23 then v else u i, by kernel_rfl⟩
theorem BaseTD.put24 {s : ByteArray} {B : Nat} (a : Act) (v : Value) (h : BaseTD s B a) : BaseTD s B (a.put (some 24) v) := by
  obtain ⟨u, rfl⟩ := h
  exact ⟨fun i => if i = 24 then v else u i, by kernel_rfl⟩
theorem BaseTD.put25 {s : ByteArray} {B : Nat} (a : Act) (v : Value) (h : BaseTD s B a) : BaseTD s B (a.put (some 25) v) := by
  obtain ⟨u, rfl⟩ := h
  exact ⟨fun i => if i = 25 then v else u i, by kernel_rfl⟩
theorem BaseTD.put26 {s : ByteArray} {B : Nat} (a : Act) (v : Value) (h : BaseTD s B a) : BaseTD s B (a.put (some 26) v) := by
  obtain ⟨u, rfl⟩ := h
  exact ⟨fun i => if i = 26 then v else u i, by kernel_rfl⟩
theorem BaseTD.put27 {s : ByteArray} {B : Nat} (a : Act) (v : Value) (h : BaseTD s B a) : BaseTD s B (a.put (some 27) v) := by
  obtain ⟨u, rfl⟩ := h
  exact ⟨fun i => if i = 27 then v else u i, by kernel_rfl⟩
theorem BaseTD.put28 {s : ByteArray} {B : Nat} (a : Act) (v : Value) (h : BaseTD s B a) : BaseTD s B (a.put (some 28) v) := by
  obtain ⟨u, rfl⟩ := h
  exact ⟨fun i => if i = 28 then v else u i, by kernel_rfl⟩
theorem BaseTD.put29 {s : ByteArray} {B : Nat} (a : Act) (v : Value) (h : BaseTD s B a) : BaseTD s B (a.put (some 29) v) := by
  obtain ⟨u, rfl⟩ := h
  exact ⟨fun i => if i = 29 then v else u i, by kernel_rfl⟩
theorem BaseTD.put30 {s : ByteArray} {B : Nat} (a : Act) (v : Value) (h : BaseTD s B a) : BaseTD s B (a.put (some 30) v) := by
  obtain ⟨u, rfl⟩ := h
  exact ⟨fun i => if i = 30 then v else u i, by kernel_rfl⟩
theorem BaseTD.put31 {s : ByteArray} {B : Nat} (a : Act) (v : Value) (h : BaseTD s B a) : BaseTD s B (a.put (some 31) v) := by
  obtain ⟨u, rfl⟩ := h
  exact ⟨fun i => if i = 31 then v else u i, by kernel_rfl⟩
theorem BaseTD.put4 {s : ByteArray} {B : Nat} (a : Act) (v : Value) (h : BaseTD s B a) : BaseTD s B (a.put (some 4) v) := by
  obtain ⟨u, rfl⟩ := h
  exact ⟨fun i => if i = 4 then v else u i, by kernel_rfl⟩

end Go.Proofs.YtjmoecfgpfdncaaGreatDoor

/- Package tag: the three contracts (May: TagC0, Encode: TagC2, Decode: TagC3). -/
namespace Go.Proofs.YtjmoecfgpfdncaaGreatDoor
set_option maxRecDepth 100000
theorem tag_contracts : True := trivial
end Go.Proofs.YtjmoecfgpfdncaaGreatDoor

/- Package frame, walked: Encode. -/
namespace Go.Proofs.YtjmoecfgpfdncaaGreatDoor
set_option maxRecDepth 100000
open Go.RowKit
attribute [local go_sem] Oper.semAt_some

def encLs (l : List ByteArray) : ByteArray := l.foldl (fun a x => a ++ encS x) ByteArray.empty
theorem encLs_snoc (l : List ByteArray) (x : ByteArray) : encLs (l ++ [x]) = encLs l ++ encS x := by simp [encLs]
theorem encLs_pcs (s : ByteArray) : ∀ k, encLs (pcs s 8 k) = chunks s k
  | 0 => rfl
  | k + 1 => by rw [pcs_succ, encLs_snoc, encLs_pcs s k]; rfl

theorem foldE_size : ∀ (l : List (Str 8)) (a : ByteArray), ((l.map (·.1)).foldl (fun a x => a ++ encS x) a).size = a.size + 9 * l.length
  | [], a => rfl
  | x :: l, a => by
    rw [List.map_cons, List.foldl_cons, foldE_size l, ByteArray.size_append, encS_size, x.2, List.length_cons]; omega
theorem encLs_size (l : List (Str 8)) : (encLs (l.map (·.1))).size = 9 * l.length := by
  have h := foldE_size l ByteArray.empty
  rw [show ByteArray.empty.size = 0 from rfl, Nat.zero_add] at h
  exact h
theorem Tabs.kept {W W' : World} {row : Option Nat} (h : Tabs W) (hg : W.grownBy W' row) (hr : ∀ r, row = some r → ∃ o : Obj, W.heap[r]? = some o ∧ o.isCells = false) : Tabs W' :=
  ⟨fun i hi => cell_kept (h.1 i hi) hg hr, fun i hi => cell_kept (h.2 i hi) hg hr⟩

theorem fr_enc_long (k l q e : Int) (data : ByteArray) (w : World) (h : ¬ LenOk data.size) :
    Calls Tryz.prog 50 #[.agg (ta k l q e), .string data] w (FrEnc k l q e data w) := by
  unfold FrEnc frT frE
  rw [if_neg (fun hh => h hh.1), if_neg h]
  have HD : Hid (decide (8 ≤ (data.size : Int) ∧ (data.size : Int) ≤ 256 ∧ (data.size : Int) % 8 = 0) = false) := decide_eq_false (fun hh => h ⟨by omega, by omega, by omega⟩)
  clear h
  refine calls_of_marks Tryz.func50 rfl ?_
  simp only [Tryz.ntmps50, List.size_toArray, List.length_cons, List.length_nil, Nat.reduceAdd, Nat.reduceSub, Array.replicate_succ, Array.replicate_zero, List.push_toArray, List.append_toArray, List.nil_append, List.cons_append]
  go_wp2_with fail
  refine (fr_data (data.size : Int) _).mono ?_
  rintro r w1 ⟨rfl, rfl⟩
  rw [HD.out]
  go_wp2_with fail
  exact leave_none rfl (results_tmp2 rfl _ _ _) ⟨rfl, (Below.refl _ _).alloc (Nat.le_refl _) _⟩
theorem fr_enc_range (k l q e : Int) (data : ByteArray) (w : World) (hl : LenOk data.size) (h : ¬ MayT k l q e) :
    Calls Tryz.prog 50 #[.agg (ta k l q e), .string data] w (FrEnc k l q e data w) := by
  unfold FrEnc frT frE
  rw [if_neg (fun hh => h hh.2), if_pos hl, if_neg h]
  have HD : Hid (decide (8 ≤ (data.size : Int) ∧ (data.size : Int) ≤ 256 ∧ (data.size : Int) % 8 = 0) = true) := by
    obtain ⟨h1, h2, h3⟩ := hl
    exact decide_eq_true (by omega)
  have HE : Hid (encT k l q e = ByteArray.empty ∧ encE k l q e = 1) := ⟨if_neg h, if_neg h⟩
  have hds : data.size ≤ 256 := hl.2.1
  clear h hl
  refine calls_of_marks Tryz.func50 rfl ?_
  simp only [Tryz.ntmps50, List.size_toArray, List.length_cons, List.length_nil, Nat.reduceAdd, Nat.reduceSub, Array.replicate_succ, Array.replicate_zero, List.push_toArray, List.append_toArray, List.nil_append, List.cons_append]
  go_wp2_with fail
  refine (fr_data (data.size : Int) _).mono ?_
  rintro r w1 ⟨rfl, rfl⟩
  rw [HD.out]
  go_wp2_with (refine wpList_load_row rfl 86 (.tmp 2) rfl w.heap.size rfl 86 (ta k l q e) (0, 0) _ (Blk.new w (ta k l q e) 86) Tryz.underlying86 rfl size_tag ?_)
  refine (tag_enc k l q e _).mono ?_
  rintro r w2 ⟨rfl, hb2⟩
  rw [HE.out.1, HE.out.2]
  have HB2 : Hid (Below w.heap.size w w2) := ((Below.refl _ _).alloc (Nat.le_refl _) _).trans (hb2.mono (by simp))
  clear hb2
  go_wp2_with fail
  exact leave_none rfl (results_tmp2 rfl _ _ _) ⟨rfl, HB2.out⟩

set_option maxHeartbeats 2000000 in
theorem fr_enc_yes (k l q e : Int) (data : ByteArray) (w : World) (hl : LenOk data.size) (hm : MayT k l q e) (hT : Tabs w) :
    Calls Tryz.prog 50 #[.agg (ta k l q e), .string data] w (FrEnc k l q e data w) := by
  unfold FrEnc frT frE
  rw [if_pos ⟨hl, hm⟩, if_pos hl, if_pos hm]
  have hd1 : decide (8 ≤ (data.size : Int) ∧ (data.size : Int) ≤ 256 ∧ (data.size : Int) % 8 = 0) = true := by
    obtain ⟨h1, h2, h3⟩ := hl
    rw [decide_eq_true_eq]; omega
  have HD1 := Lib.hid hd1
  have he : encT k l q e = tagS k l q e ∧ encE k l q e = 0 := ⟨if_pos hm, if_pos hm⟩
  have HE := Lib.hid he
  have HT := Lib.hid hT
  obtain ⟨x, hx⟩ : ∃ x, tagS k l q e ++ data = x := ⟨_, rfl⟩
  have hxz : x.size = 16 + data.size := by rw [← hx, ByteArray.size_append, tagS_size]
  obtain ⟨z, hz⟩ : ∃ z, sealS x ++ (⟨#[0, 0, 0, 0]⟩ : ByteArray) = z := ⟨_, rfl⟩
  have hzz : z.size = data.size + 24 := by rw [← hz, ByteArray.size_append, sealS_size, hxz, show (⟨#[0, 0, 0, 0]⟩ : ByteArray).size = 4 from rfl]; omega
  have hpg : chunks z ((data.size + 24) / 8) = pageS k l q e data := by rw [← hz, ← hx]; rfl
  have ht16 : (tagS k l q e).size = 16 := tagS_size _ _ _ _
  have hsx : (sealS x).size = x.size + 4 := sealS_size x
  obtain ⟨sx, hsxe⟩ : ∃ t, sealS x = t := ⟨_, rfl⟩
  obtain ⟨tg, htg⟩ : ∃ t, tagS k l q e = t := ⟨_, rfl⟩
  rw [hsxe] at hz hsx
  rw [htg] at hx ht16 he HE
  have h8 := hl.1
  have h256 := hl.2.1
  have hz8 : 8 * (z.size / 8) = z.size := by have := hl.2.2; omega
  obtain ⟨oc, hoc⟩ : ∃ oc : Nat, (data.size + 24) / 8 * 9 = oc := ⟨_, rfl⟩
  have hoci : ((data.size : Int) + 24) / 8 * 9 = (oc : Int) := by omega
  have hocz : oc ≤ 1000 := by omega
  have HX := Lib.hid hx
  have HZ := Lib.hid hz
  have HSX := Lib.hid hsxe
  have HPG := Lib.hid hpg
  have HOC := Lib.hid hoci
  have hx276 : x.size ≤ 272 := by omega
  clear hd1 he hT hl hm hx hz hpg hsxe htg hoc hoci
  refine calls_of_marks Tryz.func50 rfl ?_
  simp only [Tryz.ntmps50, List.size_toArray, List.length_cons, List.length_nil, Nat.reduceAdd, Nat.reduceSub, Array.replicate_succ, Array.replicate_zero, List.push_toArray, List.append_toArray, List.nil_append, List.cons_append]
  go_wp2_with fail
  refine (fr_data (data.size : Int) _).mono ?_
  rintro r w1 ⟨rfl, rfl⟩
  rw [HD1.out]
  go_wp2_with (refine wpList_load_row rfl 86 (.tmp 2) rfl w.heap.size rfl 86 (ta k l q e) (0, 0) _ (Blk.new w (ta k l q e) 86) Tryz.underlying86 rfl size_tag ?_)
  refine (tag_enc k l q e _).mono ?_
  rintro r w2 ⟨rfl, hb2⟩
  rw [HE.out.1, HE.out.2]
  have HB2 : Hid (Below w.heap.size w w2) := ((Below.refl _ _).alloc (Nat.le_refl _) _).trans (hb2.mono (by simp))
  clear hb2
  go_wp2_with fail
  refine (fr_onChip (data.size : Int) _ (by omega) (by omega)).mono ?_
  rintro r w1 ⟨rfl, hw1⟩
  rw [← hw1, HOC.out]
  clear hw1
  go_wp2_with fail
  have hb8w : w.heap.size ≤ w2.heap.size := HB2.out.size
  have HB3 : Hid (Below w.heap.size w (w2.alloc (.cells #[.pointer none, .slice none 0 0] 101))) := HB2.out.alloc HB2.out.size _
  have hN := heap_alloc_new w2 (.cells #[.pointer none, .slice none 0 0] 101)
  have hb8x : w2.heap.size < (w2.alloc (.cells #[.pointer none, .slice none 0 0] 101)).heap.size := by simp
  generalize w2.alloc (.cells #[.pointer none, .slice none 0 0] 101) = w3 at HB3 hN hb8x ⊢
  generalize w2.heap.size = b8 at hN hb8w hb8x ⊢
  refine (bld_grow w.heap.size b8 oc w3 hb8w hN HB3.out.size (by omega)).mono ?_
  rintro r w4 ⟨rfl, hbd, hb4⟩
  have HB4 : Hid (Below w.heap.size w w4) := HB3.out.trans hb4
  have HK4 := Lib.hid hbd
  clear hb4 hbd hN HB3
  go_wp2_with fail
  rw [HX.out]
  have HT4 := Lib.hid (HT.out.after HB4.out)
  refine (seal_any x _ (by omega) HT4.out.2).mono ?_
  rintro r w5 ⟨rfl, hb5⟩
  rw [HSX.out]
  have HB5 := Lib.hid (HB4.out.trans (hb5.mono HB4.out.size))
  have HK5 := Lib.hid (HK4.out.after hb5)
  clear hb5 HT4 HB4 HK4 HB2 HE HD1 HSX HX
  go_wp2_with fail
  rw [HZ.out]
  refine (pieces_any z 8 _).mono ?_
  rintro r w6 ⟨rfl, rfl⟩
  go_wp2_with fail
  obtain ⟨w6, hw6⟩ : ∃ w6, (w5.alloc (.cells #[.string z] 9)).alloc (.cells #[.int .i64 8] 3) = w6 := ⟨_, rfl⟩
  have hb6 : Below w5.heap.size w5 w6 := by rw [← hw6]; exact ((Below.refl _ _).alloc (Nat.le_refl _) _).alloc (by simp) _
  have hz6 : w6.heap.size = w5.heap.size + 2 := by rw [← hw6]; simp
  have g1 : Blk w6 w5.heap.size #[.string z] 9 := by rw [← hw6]; exact (Blk.new w5 #[.string z] 9).alloc _
  have g2 : Blk w6 (w5.heap.size + 1) #[.int .i64 8] 3 := by
    rw [← hw6]
    have h := Blk.new (w5.alloc (.cells #[.string z] 9)) #[.int .i64 8] 3
    rwa [World.size_alloc] at h
  have HB6 := Lib.hid (HB5.out.trans (hb6.mono HB5.out.size))
  have HK6 := Lib.hid (HK5.out.after hb6)
  have hb85 : b8 < w5.heap.size := HK5.out.lt
  have hws : w.heap.size ≤ w5.heap.size := HB5.out.size
  have hc1 := g1.cell 0
  have hc2 := g2.cell 0
  rw [hw6]
  generalize w5.heap.size = b5 at hb6 hz6 g1 g2 hc1 hc2 hb85 hws ⊢
  clear hw6 hb6 HB5 HK5
  refine wpIn_wide.1 (wpIn_rangeFunc_ownG (F := Fence.wide) (n := 9) rfl (by decide) (gf := 87) (lb := #[.pointer (some ⟨b5, 0, none⟩), .pointer (some ⟨b5 + 1, 0, none⟩)]) rfl trivial (enters_of Tryz.func87 (by kernel_rfl) rfl)
    (pieces_stops 8 (by decide) b5 (b5 + 1) 8 z (by decide) (by decide) (by omega) hz8 w6 (by omega) (by omega) hc1 hc2) KeepB.trans (KeepB.mark (by simp; omega)) (Below.refl _ _) (fun _ => rfl)
    (fun pre W => (Bld w.heap.size b8 (encLs (pre.map (·.1))) W ∧ Blk W b5 #[.string z] 9 ∧ Blk W (b5 + 1) #[.int .i64 8] 3) ∧ Below w.heap.size w W) (fun _ _ _ => False)
    (OwnFrom.and (Own.from (fun s A B row hs hg hr => ⟨hs.1.kept hg hr, blk_kept hs.2.1 hg hr, blk_kept hs.2.2 hg hr⟩) _) (ownFrom_below (Nat.le_refl _) (by omega)))
    (fun _ _ _ _ _ hs _ _ => hs)
    ⟨⟨HK6.out, g1, g2⟩, HB6.out⟩
    (fun x8 => { tmps := #[Value.agg (ta k l q e), Value.string data, Value.pointer (some { block := w.heap.size, off := 0 }), undef,
          Value.string { data := #[] }, Value.int IntKind.i64 0, Value.string tg, Value.int IntKind.i64 0,
          Value.pointer (some { block := b8, off := 0 }), Value.string x8.1, undef, undef, Value.string data,
          Value.int IntKind.i64 ↑data.size, Value.bool true, Value.bool false,
          Value.tuple #[Value.string tg, Value.int IntKind.i64 0], Value.agg (ta k l q e),
          Value.tuple #[Value.string tg, Value.int IntKind.i64 0], Value.string tg, Value.int IntKind.i64 0,
          Value.int IntKind.i64 0, Value.bool false, undef, Value.string data, Value.int IntKind.i64 ↑data.size,
          Value.int IntKind.i64 ↑oc, Value.tuple #[], Value.string tg, Value.string data, Value.string x,
          Value.string sx, Value.string z,
          Value.func (Fn.func 87) #[]
            #[Value.pointer (some { block := b5, off := 0 }), Value.pointer (some { block := b5 + 1, off := 0 })],
          Value.string x8.1, undef, undef, undef, undef, undef, undef, undef, undef], defers := [] }) ?assign ?body ?done ?stop)
  case assign =>
    intro l' x8 W K hK
    gi_wp2
    exact hK
  case body =>
    rintro l' pre x8 W ⟨⟨hbd, hk1, hk2⟩, hBW⟩ hlen
    have HTW := Lib.hid (HT.out.after hBW)
    have HBW := Lib.hid hBW
    have HBD := Lib.hid hbd
    have HK1 := Lib.hid hk1
    have HK2 := Lib.hid hk2
    obtain ⟨acc, hacc⟩ : ∃ acc, encLs (pre.map (·.1)) = acc := ⟨_, rfl⟩
    have hsn : encLs ((pre ++ [x8]).map (·.1)) = acc ++ encS x8.1 := by rw [List.map_append, ← hacc]; exact encLs_snoc _ _
    have HSN := Lib.hid hsn
    rw [hacc] at HBD
    have hez : (encS x8.1).size = 9 := by rw [encS_size, x8.2]
    have haz : acc.size ≤ 1000 := by
      rw [← hacc, encLs_size]
      omega
    clear hBW hbd hacc hsn hk1 hk2
    gi_wp2_with fail
    refine ⟨trivial, CallsIn.inRound l' (callsIn_wide.2 ((ham_enc_yes x8.1 _ x8.2 HTW.out.1).mono ?_))⟩
    rintro r w7 ⟨rfl, hb7⟩
    obtain ⟨e8, he8⟩ : ∃ t, encS x8.1 = t := ⟨_, rfl⟩
    rw [he8] at HSN hez ⊢
    have HB7 := Lib.hid hb7
    clear hb7 he8
    gi_wp2_with fail
    refine ⟨trivial, CallsIn.inRound l' (callsIn_wide.2 ((bld_write w.heap.size b8 acc e8 _ (HBD.out.after HB7.out) (by omega)).mono ?_))⟩
    rintro r w8 ⟨rfl, hbd8, hb8, hk8⟩
    have HBD8 := Lib.hid hbd8
    have HB8 := Lib.hid hb8
    have HK8 := Lib.hid hk8
    clear hbd8 hb8 hk8
    gi_wp2_with fail
    exact ⟨(keeps_of_below _ HB7.out).trans (keepsFrom_others _ HK8.out HB8.out.size (HBD.out.after HB7.out).cells),
      (KeepB.of_below HB7.out (by have := HK1.out.lt; have := HK2.out.lt; simp; omega)).trans (keepB_two HK8.out (HK1.out.after HB7.out) (HK2.out.after HB7.out) (by omega) (by omega) (by decide) (by decide)),
      ⟨by rw [HSN.out]; exact HBD8.out, blk_others HK8.out (HK1.out.after HB7.out) (by omega) (by decide), blk_others HK8.out (HK2.out.after HB7.out) (by omega) (by decide)⟩, (HBW.out.trans (HB7.out.mono HBW.out.size)).trans HB8.out⟩
  case done =>
    rintro D ys W hD hys ⟨⟨hbd, _, _⟩, hBW⟩ hK
    have hres : encLs (ys.map (·.1)) = pageS k l q e data := by rw [hys, encLs_pcs, hzz]; exact HPG.out
    rw [hres] at hbd
    obtain ⟨ps, hps⟩ : ∃ t, pageS k l q e data = t := ⟨_, rfl⟩
    rw [hps] at hbd
    have HPS := Lib.hid hps
    have HBW := Lib.hid hBW
    have HBD := Lib.hid hbd
    have HK := Lib.hid hK
    have HD := Lib.hid hD
    clear hBW hys hres hps hK hbd hD
    go_wp2_with fail
    refine (bld_string w.heap.size b8 ps W HBD.out).mono ?_
    rintro r w9 ⟨rfl, _, hb9, hk9⟩
    have HK9 : Hid (w9.heap[D]? = some (.deferred (some []))) := deferred_others hk9 HK.out (by have := HD.out; omega)
    have HM : Hid (Below w.heap.size w (w9.putObj D (.deferred none))) := below_mark (HBW.out.trans hb9) (by have := HD.out; omega) HK9.out
    clear hb9 hk9
    go_wp2_with fail
    exact leave_one rfl HK9.out (results_tmp2 rfl _ _ _) ⟨by rw [HPS.out]; rfl, HM.out⟩
  case stop =>
    rintro D c pre W _ _ h _
    exact h.elim

theorem fr_enc (k l q e : Int) (data : ByteArray) (w : World) (_ : data.size ≤ maxLen) (hT : Tabs w) : Calls Tryz.prog 50 #[.agg (ta k l q e), .string data] w (FrEnc k l q e data w) := by
  by_cases hl : LenOk data.size
  · by_cases hm : MayT k l q e
    · exact fr_enc_yes k l q e data w hl hm hT
    · exact fr_enc_range k l q e data w hl hm
  · exact fr_enc_long k l q e data w hl

end Go.Proofs.YtjmoecfgpfdncaaGreatDoor

/- Package frame, walked: unpacked. -/
namespace Go.Proofs.YtjmoecfgpfdncaaGreatDoor
set_option maxRecDepth 100000
open Go.RowKit
attribute [local go_sem] Oper.semAt_some

/-- what chunks hold; whether one is bad; what the worst of them is, where none is bad -/
def heldL (l : List ByteArray) : ByteArray := l.foldl (fun a x => a ++ (decS x).1) ByteArray.empty
def badL (l : List ByteArray) : Bool := l.any fun x => decide ((decS x).2 = 4)
def fixL (l : List ByteArray) : Bool := l.any fun x => decide ((decS x).2 = 3)
def toldL (l : List ByteArray) : Int := if fixL l then 3 else 2
theorem heldL_snoc (l : List ByteArray) (x : ByteArray) : heldL (l ++ [x]) = heldL l ++ (decS x).1 := by simp [heldL]
theorem badL_snoc (l : List ByteArray) (x : ByteArray) : badL (l ++ [x]) = (badL l || decide ((decS x).2 = 4)) := by simp [badL]
theorem fixL_snoc (l : List ByteArray) (x : ByteArray) : fixL (l ++ [x]) = (fixL l || decide ((decS x).2 = 3)) := by simp [fixL]
theorem heldL_pcs (s : ByteArray) : ∀ k, heldL (pcs s 9 k) = heldTo s k
  | 0 => rfl
  | k + 1 => by rw [pcs_succ, heldL_snoc, heldL_pcs s k]; rfl
theorem badL_pcs (s : ByteArray) : ∀ k, badL (pcs s 9 k) = badTo s k
  | 0 => rfl
  | k + 1 => by rw [pcs_succ, badL_snoc, badL_pcs s k]; rfl
theorem fixL_pcs (s : ByteArray) : ∀ k, fixL (pcs s 9 k) = fixTo s k
  | 0 => rfl
  | k + 1 => by rw [pcs_succ, fixL_snoc, fixL_pcs s k]; rfl
theorem toldL_pcs (s : ByteArray) (k : Nat) : toldL (pcs s 9 k) = toldTo s k := by unfold toldL toldTo; rw [fixL_pcs]

theorem heldL_size : ∀ (l : List (Str 9)) (a : ByteArray), badL (l.map (·.1)) = false → ((l.map (·.1)).foldl (fun a x => a ++ (decS x).1) a).size = a.size + 8 * l.length
  | [], a, _ => rfl
  | x :: l, a, h => by
    have hb : (decide ((decS x.1).2 = 4) || badL (l.map (·.1))) = false := h
    rw [Bool.or_eq_false_iff] at hb
    rcases decS_cases x.1 x.2 with h5 | ⟨_, h5⟩
    · exact absurd h5 (of_decide_eq_false hb.1)
    · rw [List.map_cons, List.foldl_cons, heldL_size l _ hb.2, ByteArray.size_append, h5, List.length_cons]; omega

/-- what each operation of the region UN leaves -/
def vsUN (t : ByteArray) (v : Int) : List (Option (Tmp × Value)) :=
  [some (26, .string t), some (27, .int .i64 v), some (2, .string t), some (3, .int .i64 v)]
/-- the frame while the region UN runs -/
def BaseUN (b3 bw D : Nat) (a : Act) : Prop := ∃ u : Nat → Value, a = ⟨#[u 0, u 1, u 2, u 3, .pointer (some ⟨b3, 0, none⟩), .pointer (some ⟨bw, 0, none⟩), u 6, u 7, u 8, u 9, u 10, u 11, u 12, u 13, u 14, u 15, u 16, u 17, u 18, u 19, u 20, u 21, u 22, u 23, u 24, u 25, u 26, u 27], [{ target := Target.collected D, args := #[] }]⟩
theorem BaseUN.of {b3 bw D : Nat} (arr : Array Value) (h : arr = #[arr.getD 0 undef, arr.getD 1 undef, arr.getD 2 undef, arr.getD 3 undef, .pointer (some ⟨b3, 0, none⟩), .pointer (some ⟨bw, 0, none⟩), arr.getD 6 undef, arr.getD 7 undef, arr.getD 8 undef, arr.getD 9 undef, arr.getD 10 undef, arr.getD 11 undef, arr.getD 12 undef, arr.getD 13 undef, arr.getD 14 undef, arr.getD 15 undef, arr.getD 16 undef, arr.getD 17 undef, arr.getD 18 undef, arr.getD 19 undef, arr.getD 20 undef, arr.getD 21 undef, arr.getD 22 undef, arr.getD 23 undef, arr.getD 24 undef, arr.getD 25 undef, arr.getD 26 undef, arr.getD 27 undef]) : BaseUN b3 bw D ⟨arr, [{ target := Target.collected D, args := #[] }]⟩ := ⟨fun i => arr.getD i undef, by rw [← h]⟩
theorem BaseUN.put26 {b3 bw D : Nat} (a : Act) (v : Value) (h : BaseUN b3 bw D a) : BaseUN b3 bw D (a.put (some 26) v) := by
  obtain ⟨u, rfl⟩ := h
  exact ⟨fun i => if i = 26 then v else u i, by kernel_rfl⟩
theorem BaseUN.put27 {b3 bw D : Nat} (a : Act) (v : Value) (h : BaseUN b3 bw D a) : BaseUN b3 bw D (a.put (some 27) v) := by
  obtain ⟨u, rfl⟩ := h
  exact ⟨fun i => if i = 27 then v else u i, by kernel_rfl⟩
theorem BaseUN.put2 {b3 bw D : Nat} (a : Act) (v : Value) (h : BaseUN b3 bw D a) : BaseUN b3 bw D (a.put (some 2) v) := by
  obtain ⟨u, rfl⟩ := h
  exact ⟨fun i => if i = 2 then v else u i, by kernel_rfl⟩
theorem BaseUN.put3 {b3 bw D : Nat} (a : Act) (v : Value) (h : BaseUN b3 bw D a) : BaseUN b3 bw D (a.put (some 3) v) := by
  obtain ⟨u, rfl⟩ := h
  exact ⟨fun i => if i = 3 then v else u i, by kernel_rfl⟩
/-- the world while it runs: the builder, the flag, the loop's record of deferred calls -/
def CU (w0 : World) (b3 bw D : Nat) (t : ByteArray) (v : Int) (w : World) : Prop := Bld b3 b3 t w ∧ Blk w bw #[.int .i64 v] 3 ∧ w.heap[D]? = some (.deferred (some [])) ∧ Below b3 w0 w ∧ bw ≠ b3 ∧ D ≠ b3
theorem CU.call {w0 : World} {b3 bw D : Nat} {t : ByteArray} {v : Int} {w w' : World} (h : CU w0 b3 bw D t v w) (hb : Bld b3 b3 t w') (hw : Below b3 w w') (hk : Lib.OthersKept 5 (some b3) w w') : CU w0 b3 bw D t v w' :=
  ⟨hb, blk_others hk h.2.1 h.2.2.2.2.1 (by decide), deferred_others hk h.2.2.1 h.2.2.2.2.2, h.2.2.2.1.trans hw, h.2.2.2.2⟩
theorem CU.drew {w0 : World} {b3 bw D : Nat} {t : ByteArray} {v : Int} {w : World} (h : CU w0 b3 bw D t v w) : CU w0 b3 bw D t v w.drew := ⟨h.1.drew, h.2.1.drew, h.2.2.1, h.2.2.2.1.drew, h.2.2.2.2⟩

end Go.Proofs.YtjmoecfgpfdncaaGreatDoor

/- Package frame, walked: isBlank. -/
namespace Go.Proofs.YtjmoecfgpfdncaaGreatDoor
set_option maxRecDepth 100000
open Go.RowKit
attribute [local go_sem] Oper.semAt_some

/-- what a function of one result gives, that lies in a cell of its own -/
theorem results_cell_one {P : Program} {fn : Func} {p : Tmp} {ty : TypeId} (h : fn.results = #[.cell p ty]) (tmps : Array Value) (w : World) (g : Nat) (v : Value)
    (hp : tmps.getD p undef = .pointer (some ⟨g, 0, none⟩)) (hc : w.cell? ⟨g, 0, none⟩ = some v) (ha : ∀ w, (isAgg ty).run P w = .ok false w) : (results fn tmps).run P w = .ok v w := by
  have hp' : tmps[p]?.getD undef = .pointer (some ⟨g, 0, none⟩) := by simpa using hp
  simp [results, h, hp', asAddr, loadVar, ha]
  rw [hc]
/-- no text of these has more than one bit that is 0 -/
def allB (l : List ByteArray) : Bool := l.all fun x => decide (zs x.data.toList ≤ 1)
theorem allB_snoc (l : List ByteArray) (x : ByteArray) : allB (l ++ [x]) = (allB l && decide (zs x.data.toList ≤ 1)) := by simp [allB]
theorem allB_pcs (s : ByteArray) : ∀ k, allB (pcs s 9 k) = blankTo s k
  | 0 => rfl
  | k + 1 => by rw [pcs_succ, allB_snoc, allB_pcs s k]; rfl
theorem blank_later {s : ByteArray} {k c : Nat} (h : blankTo s k = false) (hc : k ≤ c) : blankTo s c = false := by
  induction c with
  | zero => rw [← Nat.le_zero.1 hc]; exact h
  | succ c ih =>
    by_cases e : k = c + 1
    · rw [← e]; exact h
    · show (blankTo s c && _) = false
      rw [ih (by omega)]; rfl
theorem zs_all (x : ByteArray) : zsTo x x.size = zs x.data.toList := by
  unfold zsTo
  rw [List.take_of_length_le (by simp)]

end Go.Proofs.YtjmoecfgpfdncaaGreatDoor

/- Package frame, walked: opened. -/
namespace Go.Proofs.YtjmoecfgpfdncaaGreatDoor
set_option maxRecDepth 100000
open Go.RowKit

theorem text_same {a b : ByteArray} (h : a.toList = b.toList) : a = b := by
  rw [ByteArray.toList_eq, ByteArray.toList_eq] at h
  exact bytes_eq h
/-- what opened answers of what chunks hold -/
def OpnPost (o : ByteArray) (w : World) (r : Ending) (w' : World) : Prop :=
  (∃ k' l' q' e' dt ok, r = .returned (.tuple #[.agg (ta k' l' q' e'), .string dt, .bool ok]) ∧ ok = decide (HoldsPage o) ∧ (HoldsPage o → ta k' l' q' e' = ta (byteT (o.extract 0 16) 1) (lT (o.extract 0 16)) (qT (o.extract 0 16)) (eT (o.extract 0 16)) ∧ dt = o.extract 16 (o.size - 8))) ∧ Below w.heap.size w w'

/-- what each operation of the region OP leaves -/
def vsOP (k' l' q' e' : Int) (bd dt : ByteArray) (n m : Nat) (e : Int) (b : Bool) : List (Option (Tmp × Value)) :=
  [some (29, .agg (ta k' l' q' e')), some (30, .string bd), some (31, .string bd), some (32, .int .i64 n), some (33, .int .i64 (m : Int)), some (34, .string dt), some (35, .int .i64 e), some (36, .bool b), none, some (3, .string dt), some (4, .bool b)]
/-- the frame while the region OP runs -/
def BaseOP (g : Nat) (bd : ByteArray) (e : Int) (a : Act) : Prop := ∃ u : Nat → Value, a = ⟨#[u 0, u 1, .pointer (some ⟨g, 0, none⟩), u 3, u 4, .string bd, .int .i64 e, u 7, u 8, u 9, u 10, u 11, u 12, u 13, u 14, u 15, u 16, u 17, u 18, u 19, u 20, u 21, u 22, u 23, u 24, u 25, u 26, u 27, u 28, u 29, u 30, u 31, u 32, u 33, u 34, u 35, u 36], []⟩
theorem BaseOP.of {g : Nat} {bd : ByteArray} {e : Int} (arr : Array Value) (h : arr = #[arr.getD 0 undef, arr.getD 1 undef, .pointer (some ⟨g, 0, none⟩), arr.getD 3 undef, arr.getD 4 undef, .string bd, .int .i64 e, arr.getD 7 undef, arr.getD 8 undef, arr.getD 9 undef, arr.getD 10 undef, arr.getD 11 undef, arr.getD 12 undef, arr.getD 13 undef, arr.getD 14 undef, arr.getD 15 undef, arr.getD 16 undef, arr.getD 17 undef, arr.getD 18 undef, arr.getD 19 undef, arr.getD 20 undef, arr.getD 21 undef, arr.getD 22 undef, arr.getD 23 undef, arr.getD 24 undef, arr.getD 25 undef, arr.getD 26 undef, arr.getD 27 undef, arr.getD 28 undef, arr.getD 29 undef, arr.getD 30 undef, arr.getD 31 undef, arr.getD 32 undef, arr.getD 33 undef, arr.getD 34 undef, arr.getD 35 undef, arr.getD 36 undef]) : BaseOP g bd e ⟨arr, []⟩ := ⟨fun i => arr.getD i undef, by rw [← h]⟩
theorem BaseOP.put29 {g : Nat} {bd : ByteArray} {e : Int} (a : Act) (v : Value) (h : BaseOP g bd e a) : BaseOP g bd e (a.put (some 29) v) := by
  obtain ⟨u, rfl⟩ := h
  exact ⟨fun i => if i = 29 then v else u i, by kernel_rfl⟩
theorem BaseOP.put30 {g : Nat} {bd : ByteArray} {e : Int} (a : Act) (v : Value) (h : BaseOP g bd e a) : BaseOP g bd e (a.put (some 30) v) := by
  obtain ⟨u, rfl⟩ := h
  exact ⟨fun i => if i = 30 then v else u i, by kernel_rfl⟩
theorem BaseOP.put31 {g : Nat} {bd : ByteArray} {e : Int} (a : Act) (v : Value) (h : BaseOP g bd e a) : BaseOP g bd e (a.put (some 31) v) := by
  obtain ⟨u, rfl⟩ := h
  exact ⟨fun i => if i = 31 then v else u i, by kernel_rfl⟩
theorem BaseOP.put32 {g : Nat} {bd : ByteArray} {e : Int} (a : Act) (v : Value) (h : BaseOP g bd e a) : BaseOP g bd e (a.put (some 32) v) := by
  obtain ⟨u, rfl⟩ := h
  exact ⟨fun i => if i = 32 then v else u i, by kernel_rfl⟩
theorem BaseOP.put33 {g : Nat} {bd : ByteArray} {e : Int} (a : Act) (v : Value) (h : BaseOP g bd e a) : BaseOP g bd e (a.put (some 33) v) := by
  obtain ⟨u, rfl⟩ := h
  exact ⟨fun i => if i = 33 then v else u i, by kernel_rfl⟩
theorem BaseOP.put34 {g : Nat} {bd : ByteArray} {e : Int} (a : Act) (v : Value) (h : BaseOP g bd e a) : BaseOP g bd e (a.put (some 34) v) := by
  obtain ⟨u, rfl⟩ := h
  exact ⟨fun i => if i = 34 then v else u i, by kernel_rfl⟩
theorem BaseOP.put35 {g : Nat} {bd : ByteArray} {e : Int} (a : Act) (v : Value) (h : BaseOP g bd e a) : BaseOP g bd e (a.put (some 35) v) := by
  obtain ⟨u, rfl⟩ := h
  exact ⟨fun i => if i = 35 then v else u i, by kernel_rfl⟩
theorem BaseOP.put36 {g : Nat} {bd : ByteArray} {e : Int} (a : Act) (v : Value) (h : BaseOP g bd e a) : BaseOP g bd e (a.put (some 36) v) := by
  obtain ⟨u, rfl⟩ := h
  exact ⟨fun i => if i = 36 then v else u i, by kernel_rfl⟩
theorem BaseOP.put3 {g : Nat} {bd : ByteArray} {e : Int} (a : Act) (v : Value) (h : BaseOP g bd e a) : BaseOP g bd e (a.put (some 3) v) := by
  obtain ⟨u, rfl⟩ := h
  exact ⟨fun i => if i = 3 then v else u i, by kernel_rfl⟩
theorem BaseOP.put4 {g : Nat} {bd : ByteArray} {e : Int} (a : Act) (v : Value) (h : BaseOP g bd e a) : BaseOP g bd e (a.put (some 4) v) := by
  obtain ⟨u, rfl⟩ := h
  exact ⟨fun i => if i = 4 then v else u i, by kernel_rfl⟩
/-- the world while it runs: the tag's block -/
def CO (w0 : World) (cs : Array Value) (w : World) : Prop := Blk w w0.heap.size cs 86 ∧ Below w0.heap.size w0 w
theorem CO.drew {w0 w : World} {cs : Array Value} (h : CO w0 cs w) : CO w0 cs w.drew := ⟨h.1.drew, h.2.drew⟩
theorem CO.put {w0 w : World} {cs ds : Array Value} (h : CO w0 cs w) : CO w0 ds (w.setRow w0.heap.size ds) := ⟨h.1.put _, below_put (Nat.le_refl _) _ h.2⟩
/-- what a function of three results gives, the first in a block of its own -/
theorem results_cell_tmp2 {P : Program} {fn : Func} {p q r : Tmp} {ty : TypeId} (h : fn.results = #[.cell p ty, .tmp q, .tmp r]) (tmps : Array Value) (w : World) (g : Nat) (t : TypeId) (cs : Array Value) (d : TypeDesc)
    (hp : tmps.getD p undef = .pointer (some ⟨g, 0, none⟩)) (hg : Blk w g cs t)
    (hu : P.underlying ty = some d) (hd : (match d with | .struct _ | .array _ _ => true | _ => false) = true) (hi : (P.info? ty).map (·.size) = some cs.size) :
    (results fn tmps).run P w = .ok (.tuple #[.agg cs, tmps.getD q undef, tmps.getD r undef]) w := by
  have hp' : tmps[p]?.getD undef = .pointer (some ⟨g, 0, none⟩) := by simpa using hp
  simp [results, h, hp', asAddr, run_loadVar_row w g t ty cs (0, 0) d hg hu hd hi]

end Go.Proofs.YtjmoecfgpfdncaaGreatDoor

/- Package frame, walked: Decode; with Encode, Blank, Hurt all that the laws of layer 5 ask of it. -/
namespace Go.Proofs.YtjmoecfgpfdncaaGreatDoor
set_option maxRecDepth 100000
open Go.RowKit

theorem ta_inj {k l q e k' l' q' e' : Int} (h : ta k l q e = ta k' l' q' e') : k = k' ∧ l = l' ∧ q = q' ∧ e = e' := by simpa [ta] using h

end Go.Proofs.YtjmoecfgpfdncaaGreatDoor

/- Layer 8, the laws: pages of a number. -/
namespace Go.Proofs.YtjmoecfgpfdncaaGreatDoor
set_option maxRecDepth 100000
open Go.RowKit

def byte8 (n : Nat) : ByteArray := ⟨(List.replicate 8 (UInt8.ofNat n)).toArray⟩
/-- the page of a number -/
def pgS (n : Nat) : ByteArray := pageS 1 n n 0 (byte8 n)
theorem rep_eight (n : Nat) : (⟨(Lib.repeatL (⟨#[UInt8.ofNat n]⟩ : ByteArray).data.toList 8).toArray⟩ : ByteArray) = byte8 n := rfl
theorem byte8_size (n : Nat) : (byte8 n).size = 8 := rfl
theorem pgS_size (n : Nat) : (pgS n).size = 36 := by unfold pgS; rw [pageS_size, byte8_size]
theorem and_small : ∀ n : Fin 101, bits .and .i64 ((n.val : Nat) : Int) 4095 = ((n.val : Nat) : Int) ∧ bits .and .i64 ((n.val : Nat) : Int) 65535 = ((n.val : Nat) : Int) := by decide
theorem conv_one (n : Nat) (w : World) : Sem.run Tryz.prog (convert 87 9 (.slice (some ⟨w.heap.size, 0, none⟩) 1 1)) (w.alloc (.cells #[.int .u8 (n : Nat)] 5)) = .ok (.string ⟨#[UInt8.ofNat n]⟩) (w.alloc (.cells #[.int .u8 (n : Nat)] 5)) := by
  have h : BytesAt (w.alloc (.cells #[.int .u8 (n : Nat)] 5)) w.heap.size [(n : Int)] := by
    intro i hi
    obtain rfl : i = 0 := by simpa using hi
    exact (Blk.new w #[.int .u8 (n : Nat)] 5).cell 0
  have h2 := h.conv (P := Tryz.prog) (src := 87) (e := 5) (dst := 9) Tryz.underlying87 Tryz.underlying5 Tryz.underlying9 1 1 rfl
  rw [h2]
  rfl
theorem ce_pageOf (n : Nat) (w : World) (hn : n ≤ 100) (hT : Tabs w) : Calls Tryz.prog 22 #[.int .i64 (n : Nat)] w fun e w' => e = .returned (.string (pgS n)) ∧ Below w.heap.size w w' := by
  have HT := Lib.hid hT
  have hm : MayT 1 n n 0 := ⟨by omega, by omega, by omega, by omega, by omega, by omega, by omega, by omega⟩
  have hlo : LenOk (byte8 n).size := by rw [byte8_size]; exact ⟨by omega, by omega, by omega⟩
  have HF : Hid (frT 1 n n 0 (byte8 n) = pgS n) := if_pos ⟨hlo, hm⟩
  have hb := and_small ⟨n, by omega⟩
  simp only at hb
  obtain ⟨hb1, hb2⟩ := hb
  have hcv := conv_one n w
  clear hT hm hlo
  go_enter Tryz.func22, Tryz.ntmps22
  go_wp2_with fail
  refine (Any.strings_Repeat Tryz.lays105 Tryz.Builder_Extra_105 _ 8 _ (by omega) (by show 1 * 8 ≤ _; omega)).mono ?_
  rintro r w1 ⟨rfl, hb1⟩
  rw [rep_eight]
  have HB1 : Hid (Below w.heap.size w w1) := ((Below.refl _ _).alloc (Nat.le_refl _) _).trans (hb1.mono (by simp))
  clear hb1 hcv
  go_wp2_with fail
  refine (fr_enc 1 n n 0 (byte8 n) _ (by rw [byte8_size]; decide) (HT.out.after HB1.out)).mono ?_
  rintro r w2 ⟨rfl, hb2⟩
  rw [HF.out]
  have HB2 := Lib.hid (HB1.out.trans (hb2.mono HB1.out.size))
  clear hb2
  go_wp2_with fail
  go_ret
  exact ⟨rfl, HB2.out⟩

end Go.Proofs.YtjmoecfgpfdncaaGreatDoor

/- Layer 8, the laws: the chapter's example. -/
namespace Go.Proofs.YtjmoecfgpfdncaaGreatDoor
set_option maxRecDepth 100000
open Go.RowKit

theorem takes_pg (s : St) (hy : s.Y = 8) (n : Nat) : takesB s (pgS n) = true := by
  unfold takesB rawOf
  rw [hy, pgS_size]
  rfl
def ex0 : St := newSt 2 8
def ex1 : St := ⟨2, 8, 1, 1, false, false, 0, 0, [pgS 1, ByteArray.empty, ByteArray.empty, ByteArray.empty, ByteArray.empty, ByteArray.empty], [false, false, false, false, false, false]⟩
def ex2 : St := ⟨2, 8, 1, 2, false, false, 0, 0, [pgS 1, ByteArray.empty, ByteArray.empty, pgS 2, ByteArray.empty, ByteArray.empty], [false, false, false, false, false, false]⟩
theorem ex_a : progSt ex0 1 (pgS 1) 0 0 0 = ex0 ∧ progC ex0 1 (pgS 1) 0 = 80 := pr_no (fun h => by have := h.2.2.2.1; exact absurd this (by decide))
theorem ex_b : progSt ex0 0 (pgS 1) 0 0 0 = ex1 ∧ progC ex0 0 (pgS 1) 0 = 0 := by
  have h : ProgOk ex0 0 (pgS 1) := ⟨rfl, rfl, by decide, rfl, by decide, takes_pg ex0 rfl 1⟩
  refine ⟨(pr_yes h).1.trans rfl, (pr_yes (a := 0) (b := 0) h).2.trans rfl⟩
theorem ex_c : progSt ex1 1 (pgS 2) 0 0 0 = ex2 ∧ progC ex1 1 (pgS 2) 0 = 0 := by
  have h : ProgOk ex1 1 (pgS 2) := ⟨rfl, rfl, by decide, rfl, by decide, takes_pg ex1 rfl 2⟩
  refine ⟨(pr_yes h).1.trans rfl, (pr_yes (a := 0) (b := 0) h).2.trans rfl⟩
theorem pg_full (n : Nat) : ¬ pgS n = ByteArray.empty := fun h => by have := pgS_size n; rw [h] at this; exact absurd this (by decide)
theorem ex_d : readT ex2 1 0 = pgS 2 ∧ readC ex2 1 0 = 0 := by
  have h : ReadOk ex2 (1 : Nat) (0 : Nat) := ⟨by decide, by decide, by decide, by decide, by decide⟩
  have h2 := read_yes h
  refine ⟨h2.1.trans ?_, h2.2⟩
  unfold atT
  rw [show pageAt ex2 (3 * 1 + 0) = pgS 2 from rfl, if_neg (pg_full 2), if_neg (by decide), if_neg (by decide)]
theorem ex_e : progSt ex2 2 (pgS 3) 0 0 0 = ex2 ∧ progC ex2 2 (pgS 3) 0 = 80 := pr_no (fun h => by have := h.2.2.2.2.1; exact absurd this (by decide))
theorem ex_f : twoSt ex2 0 ByteArray.empty ByteArray.empty ByteArray.empty false 0 0 0 = ex2 ∧ twoC ex2 0 ByteArray.empty ByteArray.empty ByteArray.empty false 0 = 80 := two_no (fun h => by have := h.2.2.1; exact absurd this (by decide))
theorem ex0_wf : WfSt ex0 := newSt_ok (by decide) (by decide) ⟨by decide, by decide, by decide⟩
theorem ex1_wf : WfSt ex1 := by rw [← ex_b.1]; exact progSt_wf ex0_wf _ _ _ _ _
theorem ex2_wf : WfSt ex2 := by rw [← ex_c.1]; exact progSt_wf ex1_wf _ _ _ _ _
theorem pgS_le (n : Nat) : (pgS n).size ≤ 400 := by rw [pgS_size]; decide
/-- the tables stay, the cell's blocks are new: what holds while the example goes on -/
structure EX (w0 : World) (o : Nat) (F : Nat → Prop) (s : St) (w : World) : Prop where
  cell : CellAt w o F s
  new : ∀ k, F k → w0.heap.size ≤ k
  low : Below w0.heap.size w0 w
theorem EX.after {w0 w w' : World} {o : Nat} {F : Nat → Prop} {s : St} (h : EX w0 o F s w) (hb : Below w.heap.size w w') : EX w0 o F s w' :=
  ⟨h.cell.below hb h.cell.lt, h.new, h.low.trans (hb.mono h.low.size)⟩
theorem EX.act {w0 w w' : World} {o : Nat} {F F' : Nat → Prop} {s t : St} (h : EX w0 o F s w) (hc : CellAt w' o F' t) (hg : Grows F F' w) (ho : Only F w w') : EX w0 o F' t w' :=
  ⟨hc, fun k hk => (hg k hk).elim (h.new k) (fun h1 => Nat.le_trans h.low.size h1), h.low.trans (ho.below h.low.size h.new)⟩

set_option maxHeartbeats 2000000 in
theorem ce_works (w : World) (hT : Tabs w) : Calls Tryz.prog 7 #[] w fun e w' => e = .returned (.bool true) ∧ Below w.heap.size w w' := by
  have HTB : Hid (∀ w', Below w.heap.size w w' → Tabs w') := fun w' hb => hT.after hb
  clear hT
  go_enter Tryz.func7, Tryz.ntmps7
  go_wp2_with fail
  refine (ce_new 2 8 _).mono ?_
  rintro e w1 ⟨hy, _, hb1⟩
  obtain ⟨o, F, rfl, hc, hF⟩ := hy ⟨⟨by decide, by decide⟩, by decide, ⟨by decide, by decide, by decide⟩⟩
  have E1 : Hid (EX w o F ex0 w1) := ⟨hc, hF, hb1⟩
  clear hy hc hF hb1
  go_wp2_with fail
  refine (ce_pageOf 1 _ (by decide) (HTB.out _ E1.out.low)).mono ?_
  rintro e w2 ⟨rfl, hb2⟩
  have E2 := Lib.hid (E1.out.after hb2)
  clear hb2 E1
  go_wp2_with fail
  refine (ce_prog o F ex0 1 (pgS 1) 0 0 0 0 _ ex0_wf E2.out.cell (pgS_le 1)).mono ?_
  rintro e w3 ⟨rfl, ⟨F3, hc, hg⟩, ho⟩
  rw [ex_a.1] at hc
  have E3 := Lib.hid (E2.out.act hc hg ho)
  rw [ex_a.2]
  clear hc hg ho E2
  go_wp2_with fail
  refine (ce_pageOf 1 _ (by decide) (HTB.out _ E3.out.low)).mono ?_
  rintro e w4 ⟨rfl, hb4⟩
  have E4 := Lib.hid (E3.out.after hb4)
  clear hb4 E3
  go_wp2_with fail
  refine (ce_prog o F3 ex0 0 (pgS 1) 0 0 0 0 _ ex0_wf E4.out.cell (pgS_le 1)).mono ?_
  rintro e w5 ⟨rfl, ⟨F5, hc, hg⟩, ho⟩
  rw [ex_b.1] at hc
  have E5 := Lib.hid (E4.out.act hc hg ho)
  rw [ex_b.2]
  clear hc hg ho E4
  go_wp2_with fail
  refine (ce_pageOf 2 _ (by decide) (HTB.out _ E5.out.low)).mono ?_
  rintro e w6 ⟨rfl, hb6⟩
  have E6 := Lib.hid (E5.out.after hb6)
  clear hb6 E5
  go_wp2_with fail
  refine (ce_prog o F5 ex1 1 (pgS 2) 0 0 0 0 _ ex1_wf E6.out.cell (pgS_le 2)).mono ?_
  rintro e w7 ⟨rfl, ⟨F7, hc, hg⟩, ho⟩
  rw [ex_c.1] at hc
  have E7 := Lib.hid (E6.out.act hc hg ho)
  rw [ex_c.2]
  clear hc hg ho E6
  go_wp2_with fail
  refine (ce_read o F7 ex2 1 0 _ ex2_wf E7.out.cell).mono ?_
  rintro e w8 ⟨rfl, hb8⟩
  have E8 := Lib.hid (E7.out.after hb8)
  rw [ex_d.1, ex_d.2]
  clear hb8 E7
  go_wp2_with fail
  refine (ce_pageOf 2 _ (by decide) (HTB.out _ E8.out.low)).mono ?_
  rintro e w9 ⟨rfl, hb9⟩
  have E9 := Lib.hid (E8.out.after hb9)
  clear hb9 E8
  go_wp2_with fail
  refine (ce_pageOf 3 _ (by decide) (HTB.out _ E9.out.low)).mono ?_
  rintro e w10 ⟨rfl, hb10⟩
  have E10 := Lib.hid (E9.out.after hb10)
  clear hb10 E9
  go_wp2_with fail
  refine (ce_prog o F7 ex2 2 (pgS 3) 0 0 0 0 _ ex2_wf E10.out.cell (pgS_le 3)).mono ?_
  rintro e w11 ⟨rfl, ⟨F11, hc, hg⟩, ho⟩
  rw [ex_e.1] at hc
  have E11 := Lib.hid (E10.out.act hc hg ho)
  rw [ex_e.2]
  clear hc hg ho E10
  go_wp2_with fail
  refine (ce_foggy o F11 ex2 0 ByteArray.empty ByteArray.empty ByteArray.empty 0 0 0 0 _ ex2_wf E11.out.cell (by decide) (by decide) (by decide)).mono ?_
  rintro e w12 ⟨rfl, ⟨F12, hc, hg⟩, ho⟩
  rw [ex_f.1] at hc
  have E12 := Lib.hid (E11.out.act hc hg ho)
  rw [ex_f.2]
  clear hc hg ho E11
  go_wp2_with fail
  refine (ce_mode o F12 ex2 _ ex2_wf E12.out.cell).mono ?_
  rintro e w13 ⟨rfl, rfl⟩
  rw [show ex2.mode = 1 from rfl]
  go_wp2_with fail
  refine (ce_done o F12 ex2 _ ex2_wf E12.out.cell).mono ?_
  rintro e w14 ⟨rfl, rfl⟩
  rw [show ((ex2.done : Nat) : Int) = 2 from rfl]
  go_wp2_with fail
  go_ret
  exact ⟨rfl, E12.out.low⟩

end Go.Proofs.YtjmoecfgpfdncaaGreatDoor

/- Layer 8, the laws: CellPlays. -/
namespace Go.Proofs.YtjmoecfgpfdncaaGreatDoor
set_option maxRecDepth 100000
open Go.RowKit

theorem zv_one : zv.all (·.oneCell') = true := by
  rw [Array.all_eq_true_iff_forall_mem]
  intro v hv
  simp [zv] at hv
  rcases hv with rfl | rfl | rfl | rfl <;> rfl
theorem ActsArg.below {w w' : World} {oa : Option Addr} {l : List ActS} (h : ActsArg w oa l) (hb : Below w.heap.size w w') : ActsArg w' oa l := by
  intro i hi
  obtain ⟨a, h1, h2, h3⟩ := h i hi
  refine ⟨a, h1, Nat.lt_of_lt_of_le h2 hb.size, fun t ht => ?_⟩
  rw [← h3 t ht]
  exact Below.cell (p := (a.add (i * 10)).add t) hb (by rw [add_block, add_block]; exact h2)
set_option maxHeartbeats 2000000 in
theorem walk_CellPlays (ln by' : Int) (oa : Option Addr) (cap : Nat) (l : List ActS) (hl : l.length ≤ maxLen) (w : World) (hT : Tabs w) (ha : ActsArg w oa l) :
    Calls Tryz.prog 3 #[.int .i64 ln, .int .i64 by', .slice oa l.length cap] w fun e w' => e = .returned (.bool true) ∧ Below w.heap.size w w' := by
  have HTB : Hid (∀ w', Below w.heap.size w w' → Tabs w') := fun w' hb => hT.after hb
  have HAR : Hid (∀ w', Below w.heap.size w w' → ActsArg w' oa l) := fun w' hb => ha.below hb
  have HA0 := Lib.hid ha
  obtain ⟨n, hn⟩ : ∃ n, l.length = n := ⟨_, rfl⟩
  have HN := Lib.hid hn
  have HL := Lib.hid hl
  rw [hn] at hl ⊢
  have hn2 : (n : Int) ≤ 9223372036854775807 := by unfold maxLen at hl; omega
  clear hT ha hn hl
  by_cases hok : NewOk ln by'
  · have HOK := Lib.hid hok
    have hln := hok.1
    unfold LinesOk at hln
    have hwf : WfSt (newSt ln.toNat by'.toNat) := newSt_ok (by omega) (by omega) hok.2.2
    have HWF := Lib.hid hwf
    clear hok hwf
    go_enter Tryz.func3, Tryz.ntmps3
    go_wp2_with fail
    refine (ce_new ln by' _).mono ?_
    rintro e w1 ⟨hy, _, hb1⟩
    obtain ⟨o, F, rfl, hc, hF⟩ := hy HOK.out
    have E1 : Hid (EX w o F (newSt ln.toNat by'.toNat) w1) := ⟨hc, hF, hb1⟩
    clear hy hc hF hb1
    go_wp2_with fail
    refine (rce_new ln by' _).mono ?_
    rintro e w2 ⟨hy, _, hb2⟩
    obtain ⟨g, h, c, d, rfl, hr, hg, hh⟩ := hy HOK.out
    have E2 := Lib.hid (E1.out.after hb2)
    have HNG : Hid (¬ F g ∧ ¬ F h) := ⟨fun hf => by have := E1.out.cell.lt _ hf; omega, fun hf => by have := E1.out.cell.lt _ hf; omega⟩
    have HR := Lib.hid hr
    clear hy hb2 hr hg hh E1
    obtain ⟨s, hs⟩ : ∃ s, newSt ln.toNat by'.toNat = s := ⟨_, rfl⟩
    have hsc : s.slc = 0 ∧ s.tlc = 0 := by rw [← hs]; exact ⟨rfl, rfl⟩
    rw [hs] at E2 HR HWF ⊢
    have HSC := Lib.hid hsc
    clear hs hsc
    obtain ⟨w3, hw3⟩ : ∃ w3, (w2.alloc (.cells zv 30)).setRow w2.heap.size (cv s g c h d) = w3 := ⟨_, rfl⟩
    have hb3 : Below w2.heap.size w2 w3 := by rw [← hw3]; exact below_put (Nat.le_refl _) _ ((Below.refl _ _).alloc (Nat.le_refl _) _)
    have hk3 : Blk w3 w2.heap.size (cv s g c h d) 30 := by rw [← hw3]; exact (Blk.new w2 zv _).put _
    have E3 := Lib.hid (E2.out.after hb3)
    have HR3 := Lib.hid (HR.out.after HWF.out hb3)
    have HK3 := Lib.hid hk3
    have HW3 := Lib.hid hw3
    have HZ := Lib.hid (Blk.new w2 zv 30)
    have hpl := ce_plays o F s g c h d oa cap l w3 HWF.out E3.out.cell HR3.out HNG.out.1 HNG.out.2 HL.out (HAR.out _ E3.out.low) (fun a haa h0 hf => by
      have h1 := E3.out.new _ hf
      obtain ⟨a', h2, h3, _⟩ := HA0.out 0 h0
      rw [haa] at h2
      have h4 : a = a' := Option.some.inj h2
      rw [h4] at h1
      omega) (by have := HSC.out.1; omega) (by have := HSC.out.2; omega)
    rw [HN.out] at hpl
    have HPL := Lib.hid hpl
    clear hb3 hk3 hw3 hpl
    by_cases h12 : 12 < ln
    · go_wp2_with (first
        | (refine wpList_store_row rfl 30 (.tmp 9) (.tmp 21) rfl w2.heap.size (cv s g c h d) rfl rfl 30 zv HZ.out size_cell rfl (cv_one _ _ _ _ _) ?_; change wpList _ _ _ _ _ ((w2.alloc (.cells zv 30)).setRow w2.heap.size (cv s g c h d)); rw [HW3.out]))
      refine (ce_works _ (HTB.out _ E3.out.low)).mono ?_
      rintro e w4 ⟨rfl, hb4⟩
      have HB4 := Lib.hid (E3.out.low.trans (hb4.mono E3.out.low.size))
      clear hb4
      go_wp2_with fail
      go_ret
      exact ⟨rfl, HB4.out⟩
    · go_wp2_with (first
        | (refine wpList_store_row rfl 30 (.tmp 9) (.tmp 21) rfl w2.heap.size (cv s g c h d) rfl rfl 30 zv HZ.out size_cell rfl (cv_one _ _ _ _ _) ?_; change wpList _ _ _ _ _ ((w2.alloc (.cells zv 30)).setRow w2.heap.size (cv s g c h d)); rw [HW3.out])
        | (refine wpList_load_row rfl 30 (.tmp 9) rfl w2.heap.size rfl 30 (cv s g c h d) (0, 0) _ HK3.out Tryz.underlying30 rfl size_cell ?_))
      refine HPL.out.mono ?_
      rintro e w4 ⟨rfl, ho4⟩
      have HB4 := Lib.hid (E3.out.low.trans (ho4.below E3.out.low.size E3.out.new))
      clear ho4
      go_wp2_with fail
      refine (ce_works _ (HTB.out _ HB4.out)).mono ?_
      rintro e w5 ⟨rfl, hb5⟩
      have HB5 := Lib.hid (HB4.out.trans (hb5.mono HB4.out.size))
      clear hb5
      go_wp2_with fail
      go_ret
      exact ⟨rfl, HB5.out⟩
  · have HOK := Lib.hid hok
    clear hok
    go_enter Tryz.func3, Tryz.ntmps3
    go_wp2_with fail
    refine (ce_new ln by' _).mono ?_
    rintro e w1 ⟨_, hn, hb1⟩
    obtain rfl := hn HOK.out
    go_wp2_with fail
    refine (rce_new ln by' _).mono ?_
    rintro e w2 ⟨_, hn3, hb2⟩
    obtain rfl := hn3 HOK.out
    have HB2 := Lib.hid (hb1.trans (hb2.mono hb1.size))
    obtain ⟨w3, hw3⟩ : ∃ w3, (w2.alloc (.cells zv 30)).setRow w2.heap.size zv = w3 := ⟨_, rfl⟩
    have hb3 : Below w2.heap.size w2 w3 := by rw [← hw3]; exact below_put (Nat.le_refl _) _ ((Below.refl _ _).alloc (Nat.le_refl _) _)
    have HB3 := Lib.hid (HB2.out.trans (hb3.mono HB2.out.size))
    have HW3 := Lib.hid hw3
    have HZ := Lib.hid (Blk.new w2 zv 30)
    clear hb1 hb2 hn hn3 hb3 hw3
    go_wp2_with (first
      | (refine wpList_store_row rfl 30 (.tmp 9) (.tmp 21) rfl w2.heap.size zv rfl rfl 30 zv HZ.out size_cell rfl zv_one ?_; change wpList _ _ _ _ _ ((w2.alloc (.cells zv 30)).setRow w2.heap.size zv); rw [HW3.out]))
    refine (ce_works _ (HTB.out _ HB3.out)).mono ?_
    rintro e w4 ⟨rfl, hb4⟩
    have HB4 := Lib.hid (HB3.out.trans (hb4.mono HB3.out.size))
    clear hb4
    go_wp2_with fail
    go_ret
    exact ⟨rfl, HB4.out⟩

end Go.Proofs.YtjmoecfgpfdncaaGreatDoor

/- Layer 8, the laws: CellCopies. -/
namespace Go.Proofs.YtjmoecfgpfdncaaGreatDoor
set_option maxRecDepth 100000
open Go.RowKit

/-- the arguments' blocks lie below, the cell's above -/
def Apart (w : World) (F : Nat → Prop) : Prop := ∀ k, F k → w.heap.size ≤ k
theorem apart_arg {w : World} {F : Nat → Prop} {oa : Option Addr} {l : List ActS} (ha : ActsArg w oa l) (hF : Apart w F) : ∀ a, oa = some a → 0 < l.length → ¬ F a.block := by
  intro a haa h0 hf
  have h1 := hF _ hf
  obtain ⟨a', h2, h3, _⟩ := ha 0 h0
  rw [haa] at h2
  have h4 : a = a' := Option.some.inj h2
  rw [h4] at h1
  omega

set_option maxHeartbeats 4000000 in
theorem walk_CellCopies (ln : Int) (oa : Option Addr) (cap : Nat) (l : List ActS) (ob : Option Addr) (cap2 : Nat) (l2 : List ActS) (hl : l.length ≤ maxLen) (hl2 : l2.length ≤ maxLen) (w : World) (hT : Tabs w) (ha : ActsArg w oa l) (ha2 : ActsArg w ob l2) :
    Calls Tryz.prog 4 #[.int .i64 ln, .slice oa l.length cap, .slice ob l2.length cap2] w fun e w' => e = .returned (.bool true) ∧ Below w.heap.size w w' := by
  have HTB : Hid (∀ w', Below w.heap.size w w' → Tabs w') := fun w' hb => hT.after hb
  have HA := Lib.hid ha
  have HA2 := Lib.hid ha2
  have HL2 := Lib.hid hl2
  obtain ⟨n, hn⟩ : ∃ n, l.length = n := ⟨_, rfl⟩
  obtain ⟨m, hm⟩ : ∃ m, l2.length = m := ⟨_, rfl⟩
  have HN := Lib.hid hn
  have HM := Lib.hid hm
  rw [hn] at hl ⊢
  rw [hm]
  have hn2 : (n : Int) ≤ 9223372036854775807 := by unfold maxLen at hl; omega
  clear hT ha ha2 hn hm hl hl2
  by_cases hok : NewOk ln 8
  · have HOK := Lib.hid hok
    have hln := hok.1
    unfold LinesOk at hln
    have hwf : WfSt (newSt ln.toNat (8 : Int).toNat) := newSt_ok (by omega) (by omega) hok.2.2
    have HWF := Lib.hid hwf
    clear hok hwf
    go_enter Tryz.func4, Tryz.ntmps4
    go_wp2_with fail
    refine (ce_new ln 8 _).mono ?_
    rintro e w1 ⟨hy, _, hb1⟩
    obtain ⟨o, F, rfl, hc, hF⟩ := hy HOK.out
    have E1 : Hid (EX w o F (newSt ln.toNat (8 : Int).toNat) w1) := ⟨hc, hF, hb1⟩
    clear hy hc hF hb1
    go_wp2_with fail
    refine (rce_new ln 8 _).mono ?_
    rintro e wd ⟨hy, _, hb2⟩
    obtain ⟨g, h, c, d, rfl, hr, hg, hh⟩ := hy HOK.out
    have E2 := Lib.hid (E1.out.after hb2)
    have HNG : Hid (¬ F g ∧ ¬ F h) := ⟨fun hf => by have := E1.out.cell.lt _ hf; omega, fun hf => by have := E1.out.cell.lt _ hf; omega⟩
    have HR := Lib.hid hr
    clear hy hb2 hr hg hh E1
    obtain ⟨s, hs⟩ : ∃ s, newSt ln.toNat (8 : Int).toNat = s := ⟨_, rfl⟩
    have hsc : s.slc = 0 ∧ s.tlc = 0 := by rw [← hs]; exact ⟨rfl, rfl⟩
    rw [hs] at E2 HR HWF ⊢
    obtain ⟨w3, hw3⟩ : ∃ w3, (wd.alloc (.cells zv 30)).setRow wd.heap.size (cv s g c h d) = w3 := ⟨_, rfl⟩
    have hb3 : Below wd.heap.size wd w3 := by rw [← hw3]; exact below_put (Nat.le_refl _) _ ((Below.refl _ _).alloc (Nat.le_refl _) _)
    have hk3 : Blk w3 wd.heap.size (cv s g c h d) 30 := by rw [← hw3]; exact (Blk.new wd zv _).put _
    have hlt := HR.out.lt HWF.out
    have hpl : PL wd F o 0 s F g c h d w3 :=
      ⟨HWF.out, E2.out.cell.below hb3 E2.out.cell.lt, HR.out.after HWF.out hb3, hk3, HNG.out.1, HNG.out.2, fun hf => by have := E2.out.cell.lt _ hf; omega, by omega, by omega, fun k hk => Or.inl hk, Only.of_below hb3, hk3.lt, by omega, by omega⟩
    have HPL := Lib.hid hpl
    have HW3 := Lib.hid hw3
    have HZ := Lib.hid (Blk.new wd zv 30)
    have HLOW := Lib.hid E2.out.low
    have HNEW := Lib.hid E2.out.new
    have HAP : Hid (∀ F', Grows F F' wd → Apart w F') := fun F' hg k hk => (hg k hk).elim (HNEW.out k) (fun h1 => Nat.le_trans HLOW.out.size h1)
    clear hs hsc hw3 hb3 hk3 hlt hpl
    by_cases h12 : 12 < ln
    · go_wp2_with (first
        | (refine wpList_store_row rfl 30 (.tmp 9) (.tmp 22) rfl wd.heap.size (cv s g c h d) rfl rfl 30 zv HZ.out size_cell rfl (cv_one _ _ _ _ _) ?_; change wpList _ _ _ _ _ ((wd.alloc (.cells zv 30)).setRow wd.heap.size (cv s g c h d)); rw [HW3.out]))
      have hlw : Below w.heap.size w w3 := HLOW.out.trans (HPL.out.only.below HLOW.out.size HNEW.out)
      refine (ce_works _ (HTB.out _ hlw)).mono ?_
      rintro e w4 ⟨rfl, hb4⟩
      have HB4 := Lib.hid (hlw.trans (hb4.mono hlw.size))
      clear hb4 hlw
      go_wp2_with fail
      go_ret
      exact ⟨rfl, HB4.out⟩
    · go_wp2_with (first
        | (refine wpList_store_row rfl 30 (.tmp 9) (.tmp 22) rfl wd.heap.size (cv s g c h d) rfl rfl 30 zv HZ.out size_cell rfl (cv_one _ _ _ _ _) ?_; change wpList _ _ _ _ _ ((wd.alloc (.cells zv 30)).setRow wd.heap.size (cv s g c h d)); rw [HW3.out]))
      go_loopw [11] (fun iv wr => ∃ (i : Nat) (s' : St) (F' : Nat → Prop) (g' c' h' d' : Nat), i ≤ n ∧ i ≤ 30 ∧ iv = .int .i64 i ∧ PL wd F o i s' F' g' c' h' d' wr) (fun iv _ => 30 - (intOf iv).toNat)
      case atStart => exact ⟨0, s, F, g, c, h, d, by omega, by omega, rfl, HPL.out⟩
      case round =>
        obtain ⟨i, s', F', g', c', h', d', hi, hi30, rfl, hp⟩ := hrel
        by_cases hlt : i < n ∧ i < 30
        · obtain ⟨hlt, hlt2⟩ := hlt
          obtain ⟨a, rfl, hab, hcell⟩ := HA.out i (by rw [HN.out]; exact hlt)
          obtain ⟨A, hA⟩ : ∃ A, l[i]'(by rw [HN.out]; exact hlt) = A := ⟨_, rfl⟩
          rw [hA] at hcell
          have hlw : Below w.heap.size w wr := HLOW.out.trans (hp.only.below HLOW.out.size HNEW.out)
          have hcl : ∀ t, t < 10 → wr.cell? ((a.add (i * 10)).add t) = (actv A)[t]? := by
            intro t ht
            rw [← hcell t ht]
            exact Below.cell (p := (a.add (i * 10)).add t) hlw (by rw [add_block, add_block]; exact hab)
          obtain ⟨kd, ln', pt, p, q, r, fx, fk, fa, fb⟩ := A
          have k0 : wr.cell? (a.add (i * 10)) = some (.int .i64 kd) := hcl 0 (by omega)
          have k1 : wr.cell? ⟨(a.add (i * 10)).block, (a.add (i * 10)).off + 1, none⟩ = some (.int .i64 ln') := hcl 1 (by omega)
          have k2 : wr.cell? ⟨(a.add (i * 10)).block, (a.add (i * 10)).off + 2, none⟩ = some (.int .i64 pt) := hcl 2 (by omega)
          have k3 : wr.cell? ⟨(a.add (i * 10)).block, (a.add (i * 10)).off + 3, none⟩ = some (.string p) := hcl 3 (by omega)
          have k4 : wr.cell? ⟨(a.add (i * 10)).block, (a.add (i * 10)).off + 4, none⟩ = some (.string q) := hcl 4 (by omega)
          have k5 : wr.cell? ⟨(a.add (i * 10)).block, (a.add (i * 10)).off + 5, none⟩ = some (.string r) := hcl 5 (by omega)
          have k6 : wr.cell? ⟨(a.add (i * 10)).block, (a.add (i * 10)).off + 6, none⟩ = some (.int .i64 fx) := hcl 6 (by omega)
          have k7 : wr.cell? ⟨(a.add (i * 10)).block, (a.add (i * 10)).off + 7, none⟩ = some (.int .i64 fk) := hcl 7 (by omega)
          have k8 : wr.cell? ⟨(a.add (i * 10)).block, (a.add (i * 10)).off + 8, none⟩ = some (.int .i64 fa) := hcl 8 (by omega)
          have k9 : wr.cell? ⟨(a.add (i * 10)).block, (a.add (i * 10)).off + 9, none⟩ = some (.int .i64 fb) := hcl 9 (by omega)
          have HP := Lib.hid hp
          have HNF : Hid (¬ F' wr.heap.size) := fun hf => by have := hp.cell.lt _ hf; omega
          clear hcl hcell hp hA hlw
          go_wp2_with fail
          refine (ce_short ⟨kd, ln', pt, p, q, r, fx, fk, fa, fb⟩ _).mono ?_
          rintro e w2 ⟨rfl, hb2⟩
          have hba : Below wr.heap.size wr (wr.alloc (.cells (actv ⟨kd, ln', pt, p, q, r, fx, fk, fa, fb⟩) 40)) := (Below.refl _ _).alloc (Nat.le_refl _) _
          have HP2 := Lib.hid (HP.out.after (hba.trans (hb2.mono hba.size)))
          have HN2 := Lib.hid ((Blk.new wr (actv ⟨kd, ln', pt, p, q, r, fx, fk, fa, fb⟩) 40).after hb2)
          clear hb2 hba HP k0 k1 k2 k3 k4 k5 k6 k7 k8 k9
          obtain ⟨sb, hsb⟩ : ∃ sb, shortB ⟨kd, ln', pt, p, q, r, fx, fk, fa, fb⟩ = sb := ⟨_, rfl⟩
          have HSZ : Hid (sb = true → p.size ≤ 400 ∧ q.size ≤ 400 ∧ r.size ≤ 400) := fun h => by rw [h] at hsb; exact of_decide_eq_true hsb
          rw [hsb]
          clear hsb
          cases sb with
          | false =>
            have hlw2 : Below w.heap.size w w2 := HLOW.out.trans (HP2.out.only.below HLOW.out.size HNEW.out)
            go_wp2_with fail
            refine (ce_works _ (HTB.out _ hlw2)).mono ?_
            rintro e w4 ⟨rfl, hb4⟩
            have HB4 := Lib.hid (hlw2.trans (hb4.mono hlw2.size))
            clear hb4 hlw2
            go_wp2_with fail
            go_ret
            exact ⟨rfl, HB4.out⟩
          | true =>
            obtain ⟨hsp, hsq, hsr⟩ := HSZ.out rfl
            clear HSZ
            have m0 : w2.cell? ⟨wr.heap.size, 0, none⟩ = some (.int .i64 kd) := HN2.out.cell 0
            have m1 : w2.cell? ⟨wr.heap.size, 1, none⟩ = some (.int .i64 ln') := HN2.out.cell 1
            have m2 : w2.cell? ⟨wr.heap.size, 2, none⟩ = some (.int .i64 pt) := HN2.out.cell 2
            have m3 : w2.cell? ⟨wr.heap.size, 3, none⟩ = some (.string p) := HN2.out.cell 3
            have m4 : w2.cell? ⟨wr.heap.size, 4, none⟩ = some (.string q) := HN2.out.cell 4
            have m5 : w2.cell? ⟨wr.heap.size, 5, none⟩ = some (.string r) := HN2.out.cell 5
            have m6 : w2.cell? ⟨wr.heap.size, 6, none⟩ = some (.int .i64 fx) := HN2.out.cell 6
            have m7 : w2.cell? ⟨wr.heap.size, 7, none⟩ = some (.int .i64 fk) := HN2.out.cell 7
            have m8 : w2.cell? ⟨wr.heap.size, 8, none⟩ = some (.int .i64 fa) := HN2.out.cell 8
            have m9 : w2.cell? ⟨wr.heap.size, 9, none⟩ = some (.int .i64 fb) := HN2.out.cell 9
            by_cases hk1 : kd = 1
            · subst hk1
              go_wp2_with fail
              refine ((ce_prog) o F' s' ln' p fx fk fa fb _ HP2.out.wf HP2.out.cell hsp).mono ?_
              rintro e w3 ⟨rfl, ⟨F2, hc2, hg2⟩, ho2⟩
              have hn3 := HN2.out.only ho2 HNF.out
              have hbx := HP2.out.box.only ho2 HP2.out.nb
              have hrd := HP2.out.rd.only HP2.out.wf ho2 HP2.out.ng HP2.out.nh
              have x0 : w3.cell? ⟨wr.heap.size, 0, none⟩ = some (.int .i64 1) := hn3.cell 0
              have x1 : w3.cell? ⟨wr.heap.size, 1, none⟩ = some (.int .i64 ln') := hn3.cell 1
              have x2 : w3.cell? ⟨wr.heap.size, 2, none⟩ = some (.int .i64 pt) := hn3.cell 2
              have x3 : w3.cell? ⟨wr.heap.size, 3, none⟩ = some (.string p) := hn3.cell 3
              have x4 : w3.cell? ⟨wr.heap.size, 4, none⟩ = some (.string q) := hn3.cell 4
              have x5 : w3.cell? ⟨wr.heap.size, 5, none⟩ = some (.string r) := hn3.cell 5
              have x6 : w3.cell? ⟨wr.heap.size, 6, none⟩ = some (.int .i64 fx) := hn3.cell 6
              have x7 : w3.cell? ⟨wr.heap.size, 7, none⟩ = some (.int .i64 fk) := hn3.cell 7
              have x8 : w3.cell? ⟨wr.heap.size, 8, none⟩ = some (.int .i64 fa) := hn3.cell 8
              have x9 : w3.cell? ⟨wr.heap.size, 9, none⟩ = some (.int .i64 fb) := hn3.cell 9
              have HC2 := Lib.hid hc2
              have HG2 := Lib.hid hg2
              have HO2 := Lib.hid ho2
              have HBX := Lib.hid hbx
              have HRD := Lib.hid hrd
              obtain ⟨t, ht⟩ : ∃ t, progSt s' ln' p fk fa fb = t := ⟨_, rfl⟩
              obtain ⟨ec, hec⟩ : ∃ ec, progC s' ln' p fk = ec := ⟨_, rfl⟩
              have HT := Lib.hid ht
              have HEC := Lib.hid hec
              have htw : WfSt t := by rw [← ht]; exact progSt_wf HP2.out.wf ln' p fk fa fb
              have htc : t.slc ≤ s'.slc + 1 ∧ t.tlc ≤ s'.tlc + 1 := by
                rw [← ht]
                rw [(progSt_counts s' ln' p fk fa fb).1, (progSt_counts s' ln' p fk fa fb).2]; omega
              have HTW := Lib.hid htw
              have HTC := Lib.hid htc
              rw [ht] at HC2
              rw [hec]
              clear hc2 hg2 ho2 hn3 hbx hrd ht hec htw htc m0 m1 m2 m3 m4 m5 m6 m7 m8 m9
              go_wp2_with (first
                | (refine wpList_load_row rfl 30 (.tmp 9) rfl wd.heap.size rfl 30 (cv s' g' c' h' d') (0, 0) _ HBX.out Tryz.underlying30 rfl size_cell ?_))
              refine ((rce_prog) s' g' c' h' d' ln' p fx fk fa fb _ HP2.out.wf HRD.out ).mono ?_
              rintro e w4 ⟨⟨g2, c2, h2, d2, rfl, hr2, hgh⟩, hb4⟩
              rw [HT.out] at hr2
              rw [HT.out, HEC.out]
              have hp5 := HP2.out.step HC2.out HG2.out HO2.out hb4 hr2 hgh HTW.out HTC.out.1 HTC.out.2
              have hbx4 := HBX.out.after hb4
              obtain ⟨w5, hw5⟩ : ∃ w5, w4.setRow wd.heap.size (cv t g2 c2 h2 d2) = w5 := ⟨_, rfl⟩
              rw [hw5] at hp5
              have HP5 := Lib.hid hp5
              have HW5 := Lib.hid hw5
              have HBX4 := Lib.hid hbx4
              clear hr2 hgh hb4 hp5 hw5 hbx4 HC2 HG2 HO2 HRD HBX x0 x1 x2 x3 x4 x5 x6 x7 x8 x9
              go_wp2_with (refine wpList_store_row rfl 30 (.tmp 9) (.tmp 82) rfl wd.heap.size (cv t g2 c2 h2 d2) rfl rfl 30 (cv s' g' c' h' d') HBX4.out size_cell rfl (cv_one _ _ _ _ _) ?_; rw [HW5.out])
              go_roundw
              case rel => exact ⟨i + 1, t, F2, g2, c2, h2, d2, by omega, by omega, by go_num, HP5.out⟩
              case measure => simp [intOf]; omega
            have hb1 : ((kd : Int) == 1) = false := by simpa using hk1
            by_cases hk2 : kd = 2
            · subst hk2
              go_wp2_with fail
              refine ((ce_foggy) o F' s' ln' p q r fx fk fa fb _ HP2.out.wf HP2.out.cell hsp hsq hsr).mono ?_
              rintro e w3 ⟨rfl, ⟨F2, hc2, hg2⟩, ho2⟩
              have hn3 := HN2.out.only ho2 HNF.out
              have hbx := HP2.out.box.only ho2 HP2.out.nb
              have hrd := HP2.out.rd.only HP2.out.wf ho2 HP2.out.ng HP2.out.nh
              have x0 : w3.cell? ⟨wr.heap.size, 0, none⟩ = some (.int .i64 2) := hn3.cell 0
              have x1 : w3.cell? ⟨wr.heap.size, 1, none⟩ = some (.int .i64 ln') := hn3.cell 1
              have x2 : w3.cell? ⟨wr.heap.size, 2, none⟩ = some (.int .i64 pt) := hn3.cell 2
              have x3 : w3.cell? ⟨wr.heap.size, 3, none⟩ = some (.string p) := hn3.cell 3
              have x4 : w3.cell? ⟨wr.heap.size, 4, none⟩ = some (.string q) := hn3.cell 4
              have x5 : w3.cell? ⟨wr.heap.size, 5, none⟩ = some (.string r) := hn3.cell 5
              have x6 : w3.cell? ⟨wr.heap.size, 6, none⟩ = some (.int .i64 fx) := hn3.cell 6
              have x7 : w3.cell? ⟨wr.heap.size, 7, none⟩ = some (.int .i64 fk) := hn3.cell 7
              have x8 : w3.cell? ⟨wr.heap.size, 8, none⟩ = some (.int .i64 fa) := hn3.cell 8
              have x9 : w3.cell? ⟨wr.heap.size, 9, none⟩ = some (.int .i64 fb) := hn3.cell 9
              have HC2 := Lib.hid hc2
              have HG2 := Lib.hid hg2
              have HO2 := Lib.hid ho2
              have HBX := Lib.hid hbx
              have HRD := Lib.hid hrd
              obtain ⟨t, ht⟩ : ∃ t, twoSt s' ln' p q r false fk fa fb = t := ⟨_, rfl⟩
              obtain ⟨ec, hec⟩ : ∃ ec, twoC s' ln' p q r false fk = ec := ⟨_, rfl⟩
              have HT := Lib.hid ht
              have HEC := Lib.hid hec
              have htw : WfSt t := by rw [← ht]; exact twoSt_wf HP2.out.wf ln' p q r false fk fa fb
              have htc : t.slc ≤ s'.slc + 1 ∧ t.tlc ≤ s'.tlc + 1 := by
                rw [← ht]
                rw [(twoSt_counts s' ln' p q r false fk fa fb).1, (twoSt_counts s' ln' p q r false fk fa fb).2]; omega
              have HTW := Lib.hid htw
              have HTC := Lib.hid htc
              rw [ht] at HC2
              rw [hec]
              clear hc2 hg2 ho2 hn3 hbx hrd ht hec htw htc m0 m1 m2 m3 m4 m5 m6 m7 m8 m9
              go_wp2_with (first
                | (refine wpList_load_row rfl 30 (.tmp 9) rfl wd.heap.size rfl 30 (cv s' g' c' h' d') (0, 0) _ HBX.out Tryz.underlying30 rfl size_cell ?_))
              refine ((rce_foggy) s' g' c' h' d' ln' p q r fx fk fa fb _ HP2.out.wf HRD.out (by rw [HT.out]; exact HTW.out)).mono ?_
              rintro e w4 ⟨⟨g2, c2, h2, d2, rfl, hr2, hgh⟩, hb4⟩
              rw [HT.out] at hr2
              rw [HT.out, HEC.out]
              have hp5 := HP2.out.step HC2.out HG2.out HO2.out hb4 hr2 hgh HTW.out HTC.out.1 HTC.out.2
              have hbx4 := HBX.out.after hb4
              obtain ⟨w5, hw5⟩ : ∃ w5, w4.setRow wd.heap.size (cv t g2 c2 h2 d2) = w5 := ⟨_, rfl⟩
              rw [hw5] at hp5
              have HP5 := Lib.hid hp5
              have HW5 := Lib.hid hw5
              have HBX4 := Lib.hid hbx4
              clear hr2 hgh hb4 hp5 hw5 hbx4 HC2 HG2 HO2 HRD HBX x0 x1 x2 x3 x4 x5 x6 x7 x8 x9
              go_wp2_with (refine wpList_store_row rfl 30 (.tmp 9) (.tmp 103) rfl wd.heap.size (cv t g2 c2 h2 d2) rfl rfl 30 (cv s' g' c' h' d') HBX4.out size_cell rfl (cv_one _ _ _ _ _) ?_; rw [HW5.out])
              go_roundw
              case rel => exact ⟨i + 1, t, F2, g2, c2, h2, d2, by omega, by omega, by go_num, HP5.out⟩
              case measure => simp [intOf]; omega
            have hb2 : ((kd : Int) == 2) = false := by simpa using hk2
            by_cases hk3 : kd = 3
            · subst hk3
              go_wp2_with fail
              refine ((ce_fine) o F' s' ln' p q r fx fk fa fb _ HP2.out.wf HP2.out.cell hsp hsq hsr).mono ?_
              rintro e w3 ⟨rfl, ⟨F2, hc2, hg2⟩, ho2⟩
              have hn3 := HN2.out.only ho2 HNF.out
              have hbx := HP2.out.box.only ho2 HP2.out.nb
              have hrd := HP2.out.rd.only HP2.out.wf ho2 HP2.out.ng HP2.out.nh
              have x0 : w3.cell? ⟨wr.heap.size, 0, none⟩ = some (.int .i64 3) := hn3.cell 0
              have x1 : w3.cell? ⟨wr.heap.size, 1, none⟩ = some (.int .i64 ln') := hn3.cell 1
              have x2 : w3.cell? ⟨wr.heap.size, 2, none⟩ = some (.int .i64 pt) := hn3.cell 2
              have x3 : w3.cell? ⟨wr.heap.size, 3, none⟩ = some (.string p) := hn3.cell 3
              have x4 : w3.cell? ⟨wr.heap.size, 4, none⟩ = some (.string q) := hn3.cell 4
              have x5 : w3.cell? ⟨wr.heap.size, 5, none⟩ = some (.string r) := hn3.cell 5
              have x6 : w3.cell? ⟨wr.heap.size, 6, none⟩ = some (.int .i64 fx) := hn3.cell 6
              have x7 : w3.cell? ⟨wr.heap.size, 7, none⟩ = some (.int .i64 fk) := hn3.cell 7
              have x8 : w3.cell? ⟨wr.heap.size, 8, none⟩ = some (.int .i64 fa) := hn3.cell 8
              have x9 : w3.cell? ⟨wr.heap.size, 9, none⟩ = some (.int .i64 fb) := hn3.cell 9
              have HC2 := Lib.hid hc2
              have HG2 := Lib.hid hg2
              have HO2 := Lib.hid ho2
              have HBX := Lib.hid hbx
              have HRD := Lib.hid hrd
              obtain ⟨t, ht⟩ : ∃ t, twoSt s' ln' p q r true fk fa fb = t := ⟨_, rfl⟩
              obtain ⟨ec, hec⟩ : ∃ ec, twoC s' ln' p q r true fk = ec := ⟨_, rfl⟩
              have HT := Lib.hid ht
              have HEC := Lib.hid hec
              have htw : WfSt t := by rw [← ht]; exact twoSt_wf HP2.out.wf ln' p q r true fk fa fb
              have htc : t.slc ≤ s'.slc + 1 ∧ t.tlc ≤ s'.tlc + 1 := by
                rw [← ht]
                rw [(twoSt_counts s' ln' p q r true fk fa fb).1, (twoSt_counts s' ln' p q r true fk fa fb).2]; omega
              have HTW := Lib.hid htw
              have HTC := Lib.hid htc
              rw [ht] at HC2
              rw [hec]
              clear hc2 hg2 ho2 hn3 hbx hrd ht hec htw htc m0 m1 m2 m3 m4 m5 m6 m7 m8 m9
              go_wp2_with (first
                | (refine wpList_load_row rfl 30 (.tmp 9) rfl wd.heap.size rfl 30 (cv s' g' c' h' d') (0, 0) _ HBX.out Tryz.underlying30 rfl size_cell ?_))
              refine ((rce_fine) s' g' c' h' d' ln' p q r fx fk fa fb _ HP2.out.wf HRD.out (by rw [HT.out]; exact HTW.out)).mono ?_
              rintro e w4 ⟨⟨g2, c2, h2, d2, rfl, hr2, hgh⟩, hb4⟩
              rw [HT.out] at hr2
              rw [HT.out, HEC.out]
              have hp5 := HP2.out.step HC2.out HG2.out HO2.out hb4 hr2 hgh HTW.out HTC.out.1 HTC.out.2
              have hbx4 := HBX.out.after hb4
              obtain ⟨w5, hw5⟩ : ∃ w5, w4.setRow wd.heap.size (cv t g2 c2 h2 d2) = w5 := ⟨_, rfl⟩
              rw [hw5] at hp5
              have HP5 := Lib.hid hp5
              have HW5 := Lib.hid hw5
              have HBX4 := Lib.hid hbx4
              clear hr2 hgh hb4 hp5 hw5 hbx4 HC2 HG2 HO2 HRD HBX x0 x1 x2 x3 x4 x5 x6 x7 x8 x9
              go_wp2_with (refine wpList_store_row rfl 30 (.tmp 9) (.tmp 124) rfl wd.heap.size (cv t g2 c2 h2 d2) rfl rfl 30 (cv s' g' c' h' d') HBX4.out size_cell rfl (cv_one _ _ _ _ _) ?_; rw [HW5.out])
              go_roundw
              case rel => exact ⟨i + 1, t, F2, g2, c2, h2, d2, by omega, by omega, by go_num, HP5.out⟩
              case measure => simp [intOf]; omega
            have hb3 : ((kd : Int) == 3) = false := by simpa using hk3
            by_cases hk4 : kd = 4
            · subst hk4
              go_wp2_with fail
              refine ((ce_erase) o F' s' fx fk fa fb _ HP2.out.wf HP2.out.cell (by have := HP2.out.s1; omega) (by have := HP2.out.s2; omega)).mono ?_
              rintro e w3 ⟨rfl, ⟨F2, hc2, hg2⟩, ho2⟩
              have hn3 := HN2.out.only ho2 HNF.out
              have hbx := HP2.out.box.only ho2 HP2.out.nb
              have hrd := HP2.out.rd.only HP2.out.wf ho2 HP2.out.ng HP2.out.nh
              have x0 : w3.cell? ⟨wr.heap.size, 0, none⟩ = some (.int .i64 4) := hn3.cell 0
              have x1 : w3.cell? ⟨wr.heap.size, 1, none⟩ = some (.int .i64 ln') := hn3.cell 1
              have x2 : w3.cell? ⟨wr.heap.size, 2, none⟩ = some (.int .i64 pt) := hn3.cell 2
              have x3 : w3.cell? ⟨wr.heap.size, 3, none⟩ = some (.string p) := hn3.cell 3
              have x4 : w3.cell? ⟨wr.heap.size, 4, none⟩ = some (.string q) := hn3.cell 4
              have x5 : w3.cell? ⟨wr.heap.size, 5, none⟩ = some (.string r) := hn3.cell 5
              have x6 : w3.cell? ⟨wr.heap.size, 6, none⟩ = some (.int .i64 fx) := hn3.cell 6
              have x7 : w3.cell? ⟨wr.heap.size, 7, none⟩ = some (.int .i64 fk) := hn3.cell 7
              have x8 : w3.cell? ⟨wr.heap.size, 8, none⟩ = some (.int .i64 fa) := hn3.cell 8
              have x9 : w3.cell? ⟨wr.heap.size, 9, none⟩ = some (.int .i64 fb) := hn3.cell 9
              have HC2 := Lib.hid hc2
              have HG2 := Lib.hid hg2
              have HO2 := Lib.hid ho2
              have HBX := Lib.hid hbx
              have HRD := Lib.hid hrd
              obtain ⟨t, ht⟩ : ∃ t, eraseSt s' fk fa fb = t := ⟨_, rfl⟩
              obtain ⟨ec, hec⟩ : ∃ ec, eraseC s' fk = ec := ⟨_, rfl⟩
              have HT := Lib.hid ht
              have HEC := Lib.hid hec
              have htw : WfSt t := by rw [← ht]; exact eraseSt_wf HP2.out.wf fk fa fb (by have := HP2.out.s1; omega) (by have := HP2.out.s2; omega)
              have htc : t.slc ≤ s'.slc + 1 ∧ t.tlc ≤ s'.tlc + 1 := by
                rw [← ht]
                exact eraseSt_counts s' fk fa fb
              have HTW := Lib.hid htw
              have HTC := Lib.hid htc
              rw [ht] at HC2
              rw [hec]
              clear hc2 hg2 ho2 hn3 hbx hrd ht hec htw htc m0 m1 m2 m3 m4 m5 m6 m7 m8 m9
              go_wp2_with (first
                | (refine wpList_load_row rfl 30 (.tmp 9) rfl wd.heap.size rfl 30 (cv s' g' c' h' d') (0, 0) _ HBX.out Tryz.underlying30 rfl size_cell ?_))
              refine ((rce_erase) s' g' c' h' d' fx fk fa fb _ HP2.out.wf HRD.out (by have := HP2.out.s1; omega) (by have := HP2.out.s2; omega)).mono ?_
              rintro e w4 ⟨⟨g2, c2, h2, d2, rfl, hr2, hgh⟩, hb4⟩
              rw [HT.out] at hr2
              rw [HT.out, HEC.out]
              have hp5 := HP2.out.step HC2.out HG2.out HO2.out hb4 hr2 hgh HTW.out HTC.out.1 HTC.out.2
              have hbx4 := HBX.out.after hb4
              obtain ⟨w5, hw5⟩ : ∃ w5, w4.setRow wd.heap.size (cv t g2 c2 h2 d2) = w5 := ⟨_, rfl⟩
              rw [hw5] at hp5
              have HP5 := Lib.hid hp5
              have HW5 := Lib.hid hw5
              have HBX4 := Lib.hid hbx4
              clear hr2 hgh hb4 hp5 hw5 hbx4 HC2 HG2 HO2 HRD HBX x0 x1 x2 x3 x4 x5 x6 x7 x8 x9
              go_wp2_with (refine wpList_store_row rfl 30 (.tmp 9) (.tmp 137) rfl wd.heap.size (cv t g2 c2 h2 d2) rfl rfl 30 (cv s' g' c' h' d') HBX4.out size_cell rfl (cv_one _ _ _ _ _) ?_; rw [HW5.out])
              go_roundw
              case rel => exact ⟨i + 1, t, F2, g2, c2, h2, d2, by omega, by omega, by go_num, HP5.out⟩
              case measure => simp [intOf]; omega
            have hb4 : ((kd : Int) == 4) = false := by simpa using hk4
            go_wp2_with fail
            go_roundw
            case rel => exact ⟨i + 1, s', F', g', c', h', d', by omega, by omega, by go_num, HP2.out.next⟩
            case measure => simp [intOf]; omega
        · have HP := Lib.hid hp
          have hcc : ¬ ((i : Int) < (n : Int)) ∨ ((i : Int) < (n : Int) ∧ ¬ ((i : Int) < 30)) := by omega
          have HLE : Hid (i ≤ 30) := hi30
          clear hp hlt
          rcases hcc with hcc | ⟨hcc, hcc2⟩
          all_goals
            go_wp2_with fail
            refine (ce_copy o F' s' _ HP.out.wf HP.out.cell).mono ?_
            rintro e w4 ⟨o2, F2, rfl, hc2, hF2, hb4⟩
            have HP4 := Lib.hid (HP.out.after hb4)
            have HNG2 : Hid (¬ F2 g' ∧ ¬ F2 h') := ⟨fun hf => by have h1 := hF2 _ hf; have h2 := (HP.out.rd.lt HP.out.wf).1; omega, fun hf => by have h1 := hF2 _ hf; have h2 := (HP.out.rd.lt HP.out.wf).2; omega⟩
            have HF2 : Hid (∀ k, F2 k → ¬ F' k) := fun k hk hf => by have h1 := hF2 k hk; have h2 := HP.out.cell.lt k hf; omega
            have HC2 := Lib.hid hc2
            have hlw : Below w.heap.size w w4 := HLOW.out.trans (HP4.out.only.below HLOW.out.size HNEW.out)
            have HLW := Lib.hid hlw
            have HAP2 : Hid (Apart w F2) := fun k hk => Nat.le_trans (HLOW.out.trans (HP.out.only.below HLOW.out.size HNEW.out)).size (hF2 k hk)
            have hpl1 := ce_plays o F' s' g' c' h' d' ob cap2 l2 w4 HP4.out.wf HP4.out.cell HP4.out.rd HP4.out.ng HP4.out.nh HL2.out (HA2.out.below hlw) (apart_arg HA2.out (HAP.out F' HP4.out.grow)) (by have h1 := HP4.out.s1; have h2 := HLE.out; omega) (by have h1 := HP4.out.s2; have h2 := HLE.out; omega)
            rw [HM.out] at hpl1
            have HPL1 := Lib.hid hpl1
            clear hc2 hF2 hb4 hlw hpl1
            go_wp2_with (first
              | (refine wpList_load_row rfl 30 (.tmp 9) rfl wd.heap.size rfl 30 (cv s' g' c' h' d') (0, 0) _ HP4.out.box Tryz.underlying30 rfl size_cell ?_))
            refine HPL1.out.mono ?_
            rintro e w5 ⟨rfl, ho5⟩
            have hb5 : Below w.heap.size w w5 := HLW.out.trans (ho5.below HLW.out.size (HAP.out F' HP4.out.grow))
            have hbx5 := HP4.out.box.only ho5 HP4.out.nb
            have hrd5 := HP4.out.rd.only HP4.out.wf ho5 HP4.out.ng HP4.out.nh
            have hc5 : CellAt w5 o2 F2 s' := HC2.out.keep fun k hk => ho5.block k (HC2.out.lt k hk) (HF2.out k hk)
            have hpl2 := ce_plays o2 F2 s' g' c' h' d' ob cap2 l2 w5 HP4.out.wf hc5 hrd5 HNG2.out.1 HNG2.out.2 HL2.out (HA2.out.below hb5) (apart_arg HA2.out HAP2.out) (by have h1 := HP4.out.s1; have h2 := HLE.out; omega) (by have h1 := HP4.out.s2; have h2 := HLE.out; omega)
            rw [HM.out] at hpl2
            have HPL2 := Lib.hid hpl2
            have HB5 := Lib.hid hb5
            have HBX5 := Lib.hid hbx5
            clear ho5 hb5 hbx5 hrd5 hc5 hpl2 HPL1
            go_wp2_with (first
              | (refine wpList_load_row_if (by kernel_rfl) 30 (.tmp 9) rfl wd.heap.size rfl 30 (cv s' g' c' h' d') (0, 0) _ HBX5.out Tryz.underlying30 rfl size_cell ?_))
            refine HPL2.out.mono ?_
            rintro e w6 ⟨rfl, ho6⟩
            have HB6 := Lib.hid (HB5.out.trans (ho6.below HB5.out.size HAP2.out))
            clear ho6 HPL2
            go_wp2_with fail
            refine (ce_works _ (HTB.out _ HB6.out)).mono ?_
            rintro e w7 ⟨rfl, hb7⟩
            have HB7 := Lib.hid (HB6.out.trans (hb7.mono HB6.out.size))
            clear hb7
            go_wp2_with fail
            go_ret
            exact ⟨rfl, HB7.out⟩
  · have HOK := Lib.hid hok
    clear hok
    go_enter Tryz.func4, Tryz.ntmps4
    go_wp2_with fail
    refine (ce_new ln 8 _).mono ?_
    rintro e w1 ⟨_, hn, hb1⟩
    obtain rfl := hn HOK.out
    go_wp2_with fail
    refine (rce_new ln 8 _).mono ?_
    rintro e w2 ⟨_, hn3, hb2⟩
    obtain rfl := hn3 HOK.out
    have HB2 := Lib.hid (hb1.trans (hb2.mono hb1.size))
    obtain ⟨w3, hw3⟩ : ∃ w3, (w2.alloc (.cells zv 30)).setRow w2.heap.size zv = w3 := ⟨_, rfl⟩
    have hb3 : Below w2.heap.size w2 w3 := by rw [← hw3]; exact below_put (Nat.le_refl _) _ ((Below.refl _ _).alloc (Nat.le_refl _) _)
    have HB3 := Lib.hid (HB2.out.trans (hb3.mono HB2.out.size))
    have HW3 := Lib.hid hw3
    have HZ := Lib.hid (Blk.new w2 zv 30)
    clear hb1 hb2 hn hn3 hb3 hw3
    go_wp2_with (first
      | (refine wpList_store_row rfl 30 (.tmp 9) (.tmp 22) rfl w2.heap.size zv rfl rfl 30 zv HZ.out size_cell rfl zv_one ?_; change wpList _ _ _ _ _ ((w2.alloc (.cells zv 30)).setRow w2.heap.size zv); rw [HW3.out]))
    refine (ce_works _ (HTB.out _ HB3.out)).mono ?_
    rintro e w4 ⟨rfl, hb4⟩
    have HB4 := Lib.hid (HB3.out.trans (hb4.mono HB3.out.size))
    clear hb4
    go_wp2_with fail
    go_ret
    exact ⟨rfl, HB4.out⟩

end Go.Proofs.YtjmoecfgpfdncaaGreatDoor
