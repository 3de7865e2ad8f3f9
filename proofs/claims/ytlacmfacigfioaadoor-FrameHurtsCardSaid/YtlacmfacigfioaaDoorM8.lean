/- Texts of one claim, merged: FrQ, FrD2, FrD1, FrD3, FrC1. -/
import Derived.Test.YtlacmfacigfioaaDoorM6
import Derived.Test.YtlacmfacigfioaaDoorM4
import Derived.Test.YtlacmfacigfioaaDoorM7
import Derived.Test.YtlacmfacigfioaaDoorM3
import Derived.Test.YtlacmfacigfioaaDoorM5

/- Package frame, walked: Encode. -/
namespace Go.Proofs.YtlacmfacigfioaaDoor
set_option maxRecDepth 100000
open Go.RowKit
attribute [local go_sem] Oper.semAt_some

def encLs (l : List ByteArray) : ByteArray := l.foldl (fun a x => a ++ encS x) ByteArray.empty
theorem encLs_snoc (l : List ByteArray) (x : ByteArray) : encLs (l ++ [x]) = encLs l ++ encS x := by simp [encLs]
theorem encLs_pcs (s : ByteArray) : ∀ k, encLs (pcs s 8 k) = chunks s k
  | 0 => rfl
  | k + 1 => by rw [pcs_succ, encLs_snoc, encLs_pcs s k]; rfl

theorem foldE_size : ∀ (l : List (Str 8)) (a : ByteArray), ((l.map (·.1)).foldl (fun a x => a ++ encS x) a).size = a.size + 9 * l.length
  | [], a => rfl
  | x :: l, a => by
    rw [List.map_cons, List.foldl_cons, foldE_size l, ByteArray.size_append, encS_size, x.2, List.length_cons]; omega
theorem encLs_size (l : List (Str 8)) : (encLs (l.map (·.1))).size = 9 * l.length := by
  have h := foldE_size l ByteArray.empty
  rw [show ByteArray.empty.size = 0 from rfl, Nat.zero_add] at h
  exact h
theorem Tabs.kept {W W' : World} {row : Option Nat} (h : Tabs W) (hg : W.grownBy W' row) (hr : ∀ r, row = some r → ∃ o : Obj, W.heap[r]? = some o ∧ o.isCells = false) : Tabs W' :=
  ⟨fun i hi => cell_kept (h.1 i hi) hg hr, fun i hi => cell_kept (h.2 i hi) hg hr⟩

theorem fr_enc_long (k l q e : Int) (data : ByteArray) (w : World) (h : ¬ LenOk data.size) :
    Calls Tryd.prog 10 #[.agg (ta k l q e), .string data] w (FrEnc k l q e data w) := by
  unfold FrEnc frT frE
  rw [if_neg (fun hh => h hh.1), if_neg h]
  have HD : Hid (decide (8 ≤ (data.size : Int) ∧ (data.size : Int) ≤ 256 ∧ (data.size : Int) % 8 = 0) = false) := decide_eq_false (fun hh => h ⟨by omega, by omega, by omega⟩)
  clear h
  refine calls_of_marks Tryd.func10 rfl ?_
  simp only [Tryd.ntmps10, List.size_toArray, List.length_cons, List.length_nil, Nat.reduceAdd, Nat.reduceSub, Array.replicate_succ, Array.replicate_zero, List.push_toArray, List.append_toArray, List.nil_append, List.cons_append]
  go_wp2_with fail
  refine (fr_data (data.size : Int) _).mono ?_
  rintro r w1 ⟨rfl, rfl⟩
  rw [HD.out]
  go_wp2_with fail
  exact leave_none rfl (results_tmp2 rfl _ _ _) ⟨rfl, (Below.refl _ _).alloc (Nat.le_refl _) _⟩
theorem fr_enc_range (k l q e : Int) (data : ByteArray) (w : World) (hl : LenOk data.size) (h : ¬ MayT k l q e) :
    Calls Tryd.prog 10 #[.agg (ta k l q e), .string data] w (FrEnc k l q e data w) := by
  unfold FrEnc frT frE
  rw [if_neg (fun hh => h hh.2), if_pos hl, if_neg h]
  have HD : Hid (decide (8 ≤ (data.size : Int) ∧ (data.size : Int) ≤ 256 ∧ (data.size : Int) % 8 = 0) = true) := by
    obtain ⟨h1, h2, h3⟩ := hl
    exact decide_eq_true (by omega)
  have HE : Hid (encT k l q e = ByteArray.empty ∧ encE k l q e = 1) := ⟨if_neg h, if_neg h⟩
  have hds : data.size ≤ 256 := hl.2.1
  clear h hl
  refine calls_of_marks Tryd.func10 rfl ?_
  simp only [Tryd.ntmps10, List.size_toArray, List.length_cons, List.length_nil, Nat.reduceAdd, Nat.reduceSub, Array.replicate_succ, Array.replicate_zero, List.push_toArray, List.append_toArray, List.nil_append, List.cons_append]
  go_wp2_with fail
  refine (fr_data (data.size : Int) _).mono ?_
  rintro r w1 ⟨rfl, rfl⟩
  rw [HD.out]
  go_wp2_with (refine wpList_load_row rfl 23 (.tmp 2) rfl w.heap.size rfl 23 (ta k l q e) (0, 0) _ (Blk.new w (ta k l q e) 23) Tryd.underlying23 rfl size_tag ?_)
  refine (tag_enc k l q e _).mono ?_
  rintro r w2 ⟨rfl, hb2⟩
  rw [HE.out.1, HE.out.2]
  have HB2 : Hid (Below w.heap.size w w2) := ((Below.refl _ _).alloc (Nat.le_refl _) _).trans (hb2.mono (by simp))
  clear hb2
  go_wp2_with fail
  exact leave_none rfl (results_tmp2 rfl _ _ _) ⟨rfl, HB2.out⟩

set_option maxHeartbeats 2000000 in
theorem fr_enc_yes (k l q e : Int) (data : ByteArray) (w : World) (hl : LenOk data.size) (hm : MayT k l q e) (hT : Tabs w) :
    Calls Tryd.prog 10 #[.agg (ta k l q e), .string data] w (FrEnc k l q e data w) := by
  unfold FrEnc frT frE
  rw [if_pos ⟨hl, hm⟩, if_pos hl, if_pos hm]
  have hd1 : decide (8 ≤ (data.size : Int) ∧ (data.size : Int) ≤ 256 ∧ (data.size : Int) % 8 = 0) = true := by
    obtain ⟨h1, h2, h3⟩ := hl
    rw [decide_eq_true_eq]; omega
  have HD1 := Lib.hid hd1
  have he : encT k l q e = tagS k l q e ∧ encE k l q e = 0 := ⟨if_pos hm, if_pos hm⟩
  have HE := Lib.hid he
  have HT := Lib.hid hT
  obtain ⟨x, hx⟩ : ∃ x, tagS k l q e ++ data = x := ⟨_, rfl⟩
  have hxz : x.size = 16 + data.size := by rw [← hx, ByteArray.size_append, tagS_size]
  obtain ⟨z, hz⟩ : ∃ z, sealS x ++ (⟨#[0, 0, 0, 0]⟩ : ByteArray) = z := ⟨_, rfl⟩
  have hzz : z.size = data.size + 24 := by rw [← hz, ByteArray.size_append, sealS_size, hxz, show (⟨#[0, 0, 0, 0]⟩ : ByteArray).size = 4 from rfl]; omega
  have hpg : chunks z ((data.size + 24) / 8) = pageS k l q e data := by rw [← hz, ← hx]; rfl
  have ht16 : (tagS k l q e).size = 16 := tagS_size _ _ _ _
  have hsx : (sealS x).size = x.size + 4 := sealS_size x
  obtain ⟨sx, hsxe⟩ : ∃ t, sealS x = t := ⟨_, rfl⟩
  obtain ⟨tg, htg⟩ : ∃ t, tagS k l q e = t := ⟨_, rfl⟩
  rw [hsxe] at hz hsx
  rw [htg] at hx ht16 he HE
  have h8 := hl.1
  have h256 := hl.2.1
  have hz8 : 8 * (z.size / 8) = z.size := by have := hl.2.2; omega
  obtain ⟨oc, hoc⟩ : ∃ oc : Nat, (data.size + 24) / 8 * 9 = oc := ⟨_, rfl⟩
  have hoci : ((data.size : Int) + 24) / 8 * 9 = (oc : Int) := by omega
  have hocz : oc ≤ 1000 := by omega
  have HX := Lib.hid hx
  have HZ := Lib.hid hz
  have HSX := Lib.hid hsxe
  have HPG := Lib.hid hpg
  have HOC := Lib.hid hoci
  have hx276 : x.size ≤ 272 := by omega
  clear hd1 he hT hl hm hx hz hpg hsxe htg hoc hoci
  refine calls_of_marks Tryd.func10 rfl ?_
  simp only [Tryd.ntmps10, List.size_toArray, List.length_cons, List.length_nil, Nat.reduceAdd, Nat.reduceSub, Array.replicate_succ, Array.replicate_zero, List.push_toArray, List.append_toArray, List.nil_append, List.cons_append]
  go_wp2_with fail
  refine (fr_data (data.size : Int) _).mono ?_
  rintro r w1 ⟨rfl, rfl⟩
  rw [HD1.out]
  go_wp2_with (refine wpList_load_row rfl 23 (.tmp 2) rfl w.heap.size rfl 23 (ta k l q e) (0, 0) _ (Blk.new w (ta k l q e) 23) Tryd.underlying23 rfl size_tag ?_)
  refine (tag_enc k l q e _).mono ?_
  rintro r w2 ⟨rfl, hb2⟩
  rw [HE.out.1, HE.out.2]
  have HB2 : Hid (Below w.heap.size w w2) := ((Below.refl _ _).alloc (Nat.le_refl _) _).trans (hb2.mono (by simp))
  clear hb2
  go_wp2_with fail
  refine (fr_onChip (data.size : Int) _ (by omega) (by omega)).mono ?_
  rintro r w1 ⟨rfl, hw1⟩
  rw [← hw1, HOC.out]
  clear hw1
  go_wp2_with fail
  have hb8w : w.heap.size ≤ w2.heap.size := HB2.out.size
  have HB3 : Hid (Below w.heap.size w (w2.alloc (.cells #[.pointer none, .slice none 0 0] 47))) := HB2.out.alloc HB2.out.size _
  have hN := heap_alloc_new w2 (.cells #[.pointer none, .slice none 0 0] 47)
  have hb8x : w2.heap.size < (w2.alloc (.cells #[.pointer none, .slice none 0 0] 47)).heap.size := by simp
  generalize w2.alloc (.cells #[.pointer none, .slice none 0 0] 47) = w3 at HB3 hN hb8x ⊢
  generalize w2.heap.size = b8 at hN hb8w hb8x ⊢
  refine (bld_grow w.heap.size b8 oc w3 hb8w hN HB3.out.size (by omega)).mono ?_
  rintro r w4 ⟨rfl, hbd, hb4⟩
  have HB4 : Hid (Below w.heap.size w w4) := HB3.out.trans hb4
  have HK4 := Lib.hid hbd
  clear hb4 hbd hN HB3
  go_wp2_with fail
  rw [HX.out]
  have HT4 := Lib.hid (HT.out.after HB4.out)
  refine (seal_any x _ (by omega) HT4.out.2).mono ?_
  rintro r w5 ⟨rfl, hb5⟩
  rw [HSX.out]
  have HB5 := Lib.hid (HB4.out.trans (hb5.mono HB4.out.size))
  have HK5 := Lib.hid (HK4.out.after hb5)
  clear hb5 HT4 HB4 HK4 HB2 HE HD1 HSX HX
  go_wp2_with fail
  rw [HZ.out]
  refine (pieces_any z 8 _).mono ?_
  rintro r w6 ⟨rfl, rfl⟩
  go_wp2_with fail
  obtain ⟨w6, hw6⟩ : ∃ w6, (w5.alloc (.cells #[.string z] 9)).alloc (.cells #[.int .i64 8] 3) = w6 := ⟨_, rfl⟩
  have hb6 : Below w5.heap.size w5 w6 := by rw [← hw6]; exact ((Below.refl _ _).alloc (Nat.le_refl _) _).alloc (by simp) _
  have hz6 : w6.heap.size = w5.heap.size + 2 := by rw [← hw6]; simp
  have g1 : Blk w6 w5.heap.size #[.string z] 9 := by rw [← hw6]; exact (Blk.new w5 #[.string z] 9).alloc _
  have g2 : Blk w6 (w5.heap.size + 1) #[.int .i64 8] 3 := by
    rw [← hw6]
    have h := Blk.new (w5.alloc (.cells #[.string z] 9)) #[.int .i64 8] 3
    rwa [World.size_alloc] at h
  have HB6 := Lib.hid (HB5.out.trans (hb6.mono HB5.out.size))
  have HK6 := Lib.hid (HK5.out.after hb6)
  have hb85 : b8 < w5.heap.size := HK5.out.lt
  have hws : w.heap.size ≤ w5.heap.size := HB5.out.size
  have hc1 := g1.cell 0
  have hc2 := g2.cell 0
  rw [hw6]
  generalize w5.heap.size = b5 at hb6 hz6 g1 g2 hc1 hc2 hb85 hws ⊢
  clear hw6 hb6 HB5 HK5
  refine wpIn_wide.1 (wpIn_rangeFunc_ownG (F := Fence.wide) (n := 9) rfl (by decide) (gf := 50) (lb := #[.pointer (some ⟨b5, 0, none⟩), .pointer (some ⟨b5 + 1, 0, none⟩)]) rfl trivial (enters_of Tryd.func50 (by kernel_rfl) rfl)
    (pieces_stops 8 (by decide) b5 (b5 + 1) 8 z (by decide) (by decide) (by omega) hz8 w6 (by omega) (by omega) hc1 hc2) KeepB.trans (KeepB.mark (by simp; omega)) (Below.refl _ _) (fun _ => rfl)
    (fun pre W => (Bld w.heap.size b8 (encLs (pre.map (·.1))) W ∧ Blk W b5 #[.string z] 9 ∧ Blk W (b5 + 1) #[.int .i64 8] 3) ∧ Below w.heap.size w W) (fun _ _ _ => False)
    (OwnFrom.and (Own.from (fun s A B row hs hg hr => ⟨hs.1.kept hg hr, blk_kept hs.2.1 hg hr, blk_kept hs.2.2 hg hr⟩) _) (ownFrom_below (Nat.le_refl _) (by omega)))
    (fun _ _ _ _ _ hs _ _ => hs)
    ⟨⟨HK6.out, g1, g2⟩, HB6.out⟩
    (fun x8 => { tmps := #[Value.agg (ta k l q e), Value.string data, Value.pointer (some { block := w.heap.size, off := 0 }), undef,
          Value.string { data := #[] }, Value.int IntKind.i64 0, Value.string tg, Value.int IntKind.i64 0,
          Value.pointer (some { block := b8, off := 0 }), Value.string x8.1, undef, undef, Value.string data,
          Value.int IntKind.i64 ↑data.size, Value.bool true, Value.bool false,
          Value.tuple #[Value.string tg, Value.int IntKind.i64 0], Value.agg (ta k l q e),
          Value.tuple #[Value.string tg, Value.int IntKind.i64 0], Value.string tg, Value.int IntKind.i64 0,
          Value.int IntKind.i64 0, Value.bool false, undef, Value.string data, Value.int IntKind.i64 ↑data.size,
          Value.int IntKind.i64 ↑oc, Value.tuple #[], Value.string tg, Value.string data, Value.string x,
          Value.string sx, Value.string z,
          Value.func (Fn.func 50) #[]
            #[Value.pointer (some { block := b5, off := 0 }), Value.pointer (some { block := b5 + 1, off := 0 })],
          Value.string x8.1, undef, undef, undef, undef, undef, undef, undef, undef], defers := [] }) ?assign ?body ?done ?stop)
  case assign =>
    intro l' x8 W K hK
    gi_wp2
    exact hK
  case body =>
    rintro l' pre x8 W ⟨⟨hbd, hk1, hk2⟩, hBW⟩ hlen
    have HTW := Lib.hid (HT.out.after hBW)
    have HBW := Lib.hid hBW
    have HBD := Lib.hid hbd
    have HK1 := Lib.hid hk1
    have HK2 := Lib.hid hk2
    obtain ⟨acc, hacc⟩ : ∃ acc, encLs (pre.map (·.1)) = acc := ⟨_, rfl⟩
    have hsn : encLs ((pre ++ [x8]).map (·.1)) = acc ++ encS x8.1 := by rw [List.map_append, ← hacc]; exact encLs_snoc _ _
    have HSN := Lib.hid hsn
    rw [hacc] at HBD
    have hez : (encS x8.1).size = 9 := by rw [encS_size, x8.2]
    have haz : acc.size ≤ 1000 := by
      rw [← hacc, encLs_size]
      omega
    clear hBW hbd hacc hsn hk1 hk2
    gi_wp2_with fail
    refine ⟨trivial, CallsIn.inRound l' (callsIn_wide.2 ((ham_enc_yes x8.1 _ x8.2 HTW.out.1).mono ?_))⟩
    rintro r w7 ⟨rfl, hb7⟩
    obtain ⟨e8, he8⟩ : ∃ t, encS x8.1 = t := ⟨_, rfl⟩
    rw [he8] at HSN hez ⊢
    have HB7 := Lib.hid hb7
    clear hb7 he8
    gi_wp2_with fail
    refine ⟨trivial, CallsIn.inRound l' (callsIn_wide.2 ((bld_write w.heap.size b8 acc e8 _ (HBD.out.after HB7.out) (by omega)).mono ?_))⟩
    rintro r w8 ⟨rfl, hbd8, hb8, hk8⟩
    have HBD8 := Lib.hid hbd8
    have HB8 := Lib.hid hb8
    have HK8 := Lib.hid hk8
    clear hbd8 hb8 hk8
    gi_wp2_with fail
    exact ⟨(keeps_of_below _ HB7.out).trans (keepsFrom_others _ HK8.out HB8.out.size (HBD.out.after HB7.out).cells),
      (KeepB.of_below HB7.out (by have := HK1.out.lt; have := HK2.out.lt; simp; omega)).trans (keepB_two HK8.out (HK1.out.after HB7.out) (HK2.out.after HB7.out) (by omega) (by omega) (by decide) (by decide)),
      ⟨by rw [HSN.out]; exact HBD8.out, blk_others HK8.out (HK1.out.after HB7.out) (by omega) (by decide), blk_others HK8.out (HK2.out.after HB7.out) (by omega) (by decide)⟩, (HBW.out.trans (HB7.out.mono HBW.out.size)).trans HB8.out⟩
  case done =>
    rintro D ys W hD hys ⟨⟨hbd, _, _⟩, hBW⟩ hK
    have hres : encLs (ys.map (·.1)) = pageS k l q e data := by rw [hys, encLs_pcs, hzz]; exact HPG.out
    rw [hres] at hbd
    obtain ⟨ps, hps⟩ : ∃ t, pageS k l q e data = t := ⟨_, rfl⟩
    rw [hps] at hbd
    have HPS := Lib.hid hps
    have HBW := Lib.hid hBW
    have HBD := Lib.hid hbd
    have HK := Lib.hid hK
    have HD := Lib.hid hD
    clear hBW hys hres hps hK hbd hD
    go_wp2_with fail
    refine (bld_string w.heap.size b8 ps W HBD.out).mono ?_
    rintro r w9 ⟨rfl, _, hb9, hk9⟩
    have HK9 : Hid (w9.heap[D]? = some (.deferred (some []))) := deferred_others hk9 HK.out (by have := HD.out; omega)
    have HM : Hid (Below w.heap.size w (w9.putObj D (.deferred none))) := below_mark (HBW.out.trans hb9) (by have := HD.out; omega) HK9.out
    clear hb9 hk9
    go_wp2_with fail
    exact leave_one rfl HK9.out (results_tmp2 rfl _ _ _) ⟨by rw [HPS.out]; rfl, HM.out⟩
  case stop =>
    rintro D c pre W _ _ h _
    exact h.elim

theorem fr_enc (k l q e : Int) (data : ByteArray) (w : World) (_ : data.size ≤ maxLen) (hT : Tabs w) : Calls Tryd.prog 10 #[.agg (ta k l q e), .string data] w (FrEnc k l q e data w) := by
  by_cases hl : LenOk data.size
  · by_cases hm : MayT k l q e
    · exact fr_enc_yes k l q e data w hl hm hT
    · exact fr_enc_range k l q e data w hl hm
  · exact fr_enc_long k l q e data w hl

end Go.Proofs.YtlacmfacigfioaaDoor

/- Package frame, walked: unpacked. -/
namespace Go.Proofs.YtlacmfacigfioaaDoor
set_option maxRecDepth 100000
open Go.RowKit
attribute [local go_sem] Oper.semAt_some

/-- what chunks hold; whether one is bad; what the worst of them is, where none is bad -/
def heldL (l : List ByteArray) : ByteArray := l.foldl (fun a x => a ++ (decS x).1) ByteArray.empty
def badL (l : List ByteArray) : Bool := l.any fun x => decide ((decS x).2 = 4)
def fixL (l : List ByteArray) : Bool := l.any fun x => decide ((decS x).2 = 3)
def toldL (l : List ByteArray) : Int := if fixL l then 3 else 2
theorem heldL_snoc (l : List ByteArray) (x : ByteArray) : heldL (l ++ [x]) = heldL l ++ (decS x).1 := by simp [heldL]
theorem badL_snoc (l : List ByteArray) (x : ByteArray) : badL (l ++ [x]) = (badL l || decide ((decS x).2 = 4)) := by simp [badL]
theorem fixL_snoc (l : List ByteArray) (x : ByteArray) : fixL (l ++ [x]) = (fixL l || decide ((decS x).2 = 3)) := by simp [fixL]
theorem heldL_pcs (s : ByteArray) : ∀ k, heldL (pcs s 9 k) = heldTo s k
  | 0 => rfl
  | k + 1 => by rw [pcs_succ, heldL_snoc, heldL_pcs s k]; rfl
theorem badL_pcs (s : ByteArray) : ∀ k, badL (pcs s 9 k) = badTo s k
  | 0 => rfl
  | k + 1 => by rw [pcs_succ, badL_snoc, badL_pcs s k]; rfl
theorem fixL_pcs (s : ByteArray) : ∀ k, fixL (pcs s 9 k) = fixTo s k
  | 0 => rfl
  | k + 1 => by rw [pcs_succ, fixL_snoc, fixL_pcs s k]; rfl
theorem toldL_pcs (s : ByteArray) (k : Nat) : toldL (pcs s 9 k) = toldTo s k := by unfold toldL toldTo; rw [fixL_pcs]

theorem heldL_size : ∀ (l : List (Str 9)) (a : ByteArray), badL (l.map (·.1)) = false → ((l.map (·.1)).foldl (fun a x => a ++ (decS x).1) a).size = a.size + 8 * l.length
  | [], a, _ => rfl
  | x :: l, a, h => by
    have hb : (decide ((decS x.1).2 = 4) || badL (l.map (·.1))) = false := h
    rw [Bool.or_eq_false_iff] at hb
    rcases decS_cases x.1 x.2 with h5 | ⟨_, h5⟩
    · exact absurd h5 (of_decide_eq_false hb.1)
    · rw [List.map_cons, List.foldl_cons, heldL_size l _ hb.2, ByteArray.size_append, h5, List.length_cons]; omega

/-- what each operation of the region UN leaves -/
def vsUN (t : ByteArray) (v : Int) : List (Option (Tmp × Value)) :=
  [some (26, .string t), some (27, .int .i64 v), some (2, .string t), some (3, .int .i64 v)]
/-- the frame while the region UN runs -/
def BaseUN (b3 bw D : Nat) (a : Act) : Prop := ∃ u : Nat → Value, a = ⟨#[u 0, u 1, u 2, u 3, .pointer (some ⟨b3, 0, none⟩), .pointer (some ⟨bw, 0, none⟩), u 6, u 7, u 8, u 9, u 10, u 11, u 12, u 13, u 14, u 15, u 16, u 17, u 18, u 19, u 20, u 21, u 22, u 23, u 24, u 25, u 26, u 27], [{ target := Target.collected D, args := #[] }]⟩
theorem BaseUN.of {b3 bw D : Nat} (arr : Array Value) (h : arr = #[arr.getD 0 undef, arr.getD 1 undef, arr.getD 2 undef, arr.getD 3 undef, .pointer (some ⟨b3, 0, none⟩), .pointer (some ⟨bw, 0, none⟩), arr.getD 6 undef, arr.getD 7 undef, arr.getD 8 undef, arr.getD 9 undef, arr.getD 10 undef, arr.getD 11 undef, arr.getD 12 undef, arr.getD 13 undef, arr.getD 14 undef, arr.getD 15 undef, arr.getD 16 undef, arr.getD 17 undef, arr.getD 18 undef, arr.getD 19 undef, arr.getD 20 undef, arr.getD 21 undef, arr.getD 22 undef, arr.getD 23 undef, arr.getD 24 undef, arr.getD 25 undef, arr.getD 26 undef, arr.getD 27 undef]) : BaseUN b3 bw D ⟨arr, [{ target := Target.collected D, args := #[] }]⟩ := ⟨fun i => arr.getD i undef, by rw [← h]⟩
theorem BaseUN.put26 {b3 bw D : Nat} (a : Act) (v : Value) (h : BaseUN b3 bw D a) : BaseUN b3 bw D (a.put (some 26) v) := by
  obtain ⟨u, rfl⟩ := h
  exact ⟨fun i => if i = 26 then v else u i, by kernel_rfl⟩
theorem BaseUN.put27 {b3 bw D : Nat} (a : Act) (v : Value) (h : BaseUN b3 bw D a) : BaseUN b3 bw D (a.put (some 27) v) := by
  obtain ⟨u, rfl⟩ := h
  exact ⟨fun i => if i = 27 then v else u i, by kernel_rfl⟩
theorem BaseUN.put2 {b3 bw D : Nat} (a : Act) (v : Value) (h : BaseUN b3 bw D a) : BaseUN b3 bw D (a.put (some 2) v) := by
  obtain ⟨u, rfl⟩ := h
  exact ⟨fun i => if i = 2 then v else u i, by kernel_rfl⟩
theorem BaseUN.put3 {b3 bw D : Nat} (a : Act) (v : Value) (h : BaseUN b3 bw D a) : BaseUN b3 bw D (a.put (some 3) v) := by
  obtain ⟨u, rfl⟩ := h
  exact ⟨fun i => if i = 3 then v else u i, by kernel_rfl⟩
/-- the world while it runs: the builder, the flag, the loop's record of deferred calls -/
def CU (w0 : World) (b3 bw D : Nat) (t : ByteArray) (v : Int) (w : World) : Prop := Bld b3 b3 t w ∧ Blk w bw #[.int .i64 v] 3 ∧ w.heap[D]? = some (.deferred (some [])) ∧ Below b3 w0 w ∧ bw ≠ b3 ∧ D ≠ b3
theorem CU.call {w0 : World} {b3 bw D : Nat} {t : ByteArray} {v : Int} {w w' : World} (h : CU w0 b3 bw D t v w) (hb : Bld b3 b3 t w') (hw : Below b3 w w') (hk : Lib.OthersKept 5 (some b3) w w') : CU w0 b3 bw D t v w' :=
  ⟨hb, blk_others hk h.2.1 h.2.2.2.2.1 (by decide), deferred_others hk h.2.2.1 h.2.2.2.2.2, h.2.2.2.1.trans hw, h.2.2.2.2⟩
theorem CU.drew {w0 : World} {b3 bw D : Nat} {t : ByteArray} {v : Int} {w : World} (h : CU w0 b3 bw D t v w) : CU w0 b3 bw D t v w.drew := ⟨h.1.drew, h.2.1.drew, h.2.2.1, h.2.2.2.1.drew, h.2.2.2.2⟩

set_option maxHeartbeats 2000000 in
theorem fr_unpacked (s : ByteArray) (w : World) (hs : s.size ≤ 400) (hd : 9 * (s.size / 9) = s.size) (hT : Tabs w) :
    Calls Tryd.prog 35 #[.string s] w fun r w' => (∃ t v, r = .returned (.tuple #[.string t, .int .i64 v]) ∧ (badTo s (s.size / 9) = true → v = 4) ∧ (badTo s (s.size / 9) = false → t = heldTo s (s.size / 9) ∧ v = toldTo s (s.size / 9))) ∧ Below w.heap.size w w' := by
  refine calls_of_marks Tryd.func35 rfl ?_
  simp only [Tryd.ntmps35, List.size_toArray, List.length_cons, List.length_nil, Nat.reduceAdd, Nat.reduceSub, Array.replicate_succ, Array.replicate_zero, List.push_toArray, List.append_toArray, List.nil_append, List.cons_append]
  go_wp2_with fail
  apply wp_scope_straight
  go_hide hQ
  have HQ := Lib.hid hQ
  clear hQ
  go_wp2_with fail
  apply wp_label
  go_wp2_with fail
  refine (pieces_any s 9 _).mono ?_
  rintro r w1 ⟨rfl, rfl⟩
  go_wp2_with fail
  have HT := Lib.hid hT
  obtain ⟨w0, hw0⟩ : ∃ w0, (w.alloc (.cells #[.pointer none, .slice none 0 0] 47)).alloc (.cells #[.int .i64 2] 3) = w0 := ⟨_, rfl⟩
  have hb0 : Below w.heap.size w w0 := by rw [← hw0]; exact ((Below.refl _ _).alloc (Nat.le_refl _) _).alloc (by simp) _
  have hz0 : w0.heap.size = w.heap.size + 1 + 1 := by rw [← hw0]; simp
  have gB : Bld w.heap.size w.heap.size ByteArray.empty w0 := by
    rw [← hw0]
    exact (Bld.alloc (Lib.IsBuilderF.of (Lib.fresh_isBuilder _ _ w)) _)
  have gw : Blk w0 (w.heap.size + 1) #[.int .i64 2] 3 := by
    rw [← hw0]
    have h := Blk.new (w.alloc (.cells #[.pointer none, .slice none 0 0] 47)) #[.int .i64 2] 3
    rwa [World.size_alloc] at h
  rw [hw0, show w.heap.size + 1 + 1 = w0.heap.size from hz0.symm]
  obtain ⟨w6, hw6⟩ : ∃ w6, (w0.alloc (.cells #[.string s] 9)).alloc (.cells #[.int .i64 9] 3) = w6 := ⟨_, rfl⟩
  have hb6 : Below w0.heap.size w0 w6 := by rw [← hw6]; exact ((Below.refl _ _).alloc (Nat.le_refl _) _).alloc (by simp) _
  have hz6 : w6.heap.size = w0.heap.size + 2 := by rw [← hw6]; simp
  have g1 : Blk w6 w0.heap.size #[.string s] 9 := by rw [← hw6]; exact (Blk.new w0 #[.string s] 9).alloc _
  have g2 : Blk w6 (w0.heap.size + 1) #[.int .i64 9] 3 := by
    rw [← hw6]
    have h := Blk.new (w0.alloc (.cells #[.string s] 9)) #[.int .i64 9] 3
    rwa [World.size_alloc] at h
  have HB6 := Lib.hid (hb0.trans (hb6.mono hb0.size))
  have gB6 := gB.after hb6
  have gw6 := gw.after hb6
  have hc1 := g1.cell 0
  have hc2 := g2.cell 0
  have hwz : ∀ W, Below w.heap.size w W → Tabs W := fun W h => hT.after h
  have HWZ := Lib.hid hwz
  rw [hw6]
  generalize w0.heap.size = b5 at hb6 hz0 hz6 g1 g2 hc1 hc2 ⊢
  generalize hb3 : w.heap.size = b3 at *
  have HZ0 := Lib.hid hz0
  have hlt35 : b3 + 1 < b5 := by omega
  obtain ⟨bw, hbw⟩ : ∃ bw, b3 + 1 = bw := ⟨_, rfl⟩
  rw [hbw] at gw6 hlt35 ⊢
  have HBW3 := Lib.hid hbw
  have hl3w : b3 < bw := by omega
  have hx3 : bw ≠ b3 := by omega
  clear hw6 hb6 hw0 hb0 hz0 gB gw hbw hT hwz
  refine wpIn_wide.1 (wpIn_rangeFunc_ownG (F := Fence.wide) (n := 9) rfl (by decide) (gf := 50) (lb := #[.pointer (some ⟨b5, 0, none⟩), .pointer (some ⟨b5 + 1, 0, none⟩)]) rfl trivial (enters_of Tryd.func50 (by kernel_rfl) rfl)
    (pieces_stops 8 (by decide) b5 (b5 + 1) 9 s (by decide) (by decide) (by omega) hd w6 (by omega) (by omega) hc1 hc2) KeepB.trans (KeepB.mark (by simp; omega)) (Below.refl _ _) (fun _ => rfl)
    (fun pre W => (badL (pre.map (·.1)) = false ∧ Bld b3 b3 (heldL (pre.map (·.1))) W ∧ Blk W bw #[.int .i64 (toldL (pre.map (·.1)))] 3 ∧ Blk W b5 #[.string s] 9 ∧ Blk W (b5 + 1) #[.int .i64 9] 3) ∧ Below b3 w W)
    (fun c pre W => (c = .exit 0 ∧ badL (pre.map (·.1)) = true ∧ (∃ t, Bld b3 b3 t W) ∧ Blk W bw #[.int .i64 4] 3) ∧ Below b3 w W)
    (OwnFrom.and (Own.from (fun s A B row hs hg hr => ⟨hs.1, hs.2.1.kept hg hr, blk_kept hs.2.2.1 hg hr, blk_kept hs.2.2.2.1 hg hr, blk_kept hs.2.2.2.2 hg hr⟩) _) (ownFrom_below (by omega) (by omega)))
    (fun c => OwnFrom.and (Own.from (fun s A B row hs hg hr => ⟨hs.1, hs.2.1, hs.2.2.1.imp (fun t h => h.kept hg hr), blk_kept hs.2.2.2 hg hr⟩) _) (ownFrom_below (by omega) (by omega)))
    ⟨⟨rfl, gB6, gw6, g1, g2⟩, HB6.out⟩
    (fun x9 => { tmps := #[Value.string s, undef, Value.string { data := #[] }, Value.int IntKind.i64 0,
          Value.pointer (some { block := b3, off := 0 }),
          Value.pointer (some { block := bw, off := 0 }), Value.string x9.1, undef, undef, undef, Value.string s,
          Value.func (Fn.func 50) #[]
            #[Value.pointer (some { block := b5, off := 0 }), Value.pointer (some { block := b5 + 1, off := 0 })],
          Value.string x9.1, undef, undef, undef, undef, undef, undef, undef, undef, undef, undef, undef, undef, undef, undef,
          undef], defers := [] }) ?assign ?body ?done ?stop)
  case assign =>
    intro l' x9 W K hK
    gi_wp2
    exact hK
  case body =>
    rintro l' pre x9 W ⟨⟨hall, hbd, hkw, hk1, hk2⟩, hBW⟩ hlen
    have HTW := Lib.hid (HWZ.out W hBW)
    have HBW := Lib.hid hBW
    have HBD := Lib.hid hbd
    have HKW := Lib.hid hkw
    have HK1 := Lib.hid hk1
    have HK2 := Lib.hid hk2
    obtain ⟨acc, hacc⟩ : ∃ acc, heldL (pre.map (·.1)) = acc := ⟨_, rfl⟩
    rw [hacc] at HBD
    have hsn : heldL ((pre ++ [x9]).map (·.1)) = acc ++ (decS x9.1).1 := by rw [List.map_append, List.map_singleton, heldL_snoc, hacc]
    have hsb : badL ((pre ++ [x9]).map (·.1)) = decide ((decS x9.1).2 = 4) := by rw [List.map_append, List.map_singleton, badL_snoc, hall]; rfl
    have hst : toldL ((pre ++ [x9]).map (·.1)) = if (decS x9.1).2 = 3 then 3 else toldL (pre.map (·.1)) := by
      unfold toldL
      rw [List.map_append, List.map_singleton, fixL_snoc]
      by_cases h3 : (decS x9.1).2 = 3
      · rw [if_pos h3, decide_eq_true h3, Bool.or_true]; rfl
      · rw [if_neg h3, decide_eq_false h3, Bool.or_false]
    obtain ⟨tv, htv⟩ : ∃ tv, toldL (pre.map (·.1)) = tv := ⟨_, rfl⟩
    rw [htv] at HKW hst
    have hcs := decS_cases x9.1 x9.2
    have haz : acc.size ≤ 1000 := by
      have h := heldL_size pre ByteArray.empty hall
      rw [← hacc]
      unfold heldL
      rw [h, show ByteArray.empty.size = 0 from rfl]
      omega
    obtain ⟨dt, hdt⟩ : ∃ dt, (decS x9.1).1 = dt := ⟨_, rfl⟩
    obtain ⟨dv, hdv⟩ : ∃ dv, (decS x9.1).2 = dv := ⟨_, rfl⟩
    rw [hdt] at hsn hcs
    rw [hdv] at hsb hst hcs
    have HDT := Lib.hid hdt
    have HDV := Lib.hid hdv
    have HSN := Lib.hid hsn
    have HSB := Lib.hid hsb
    have HST := Lib.hid hst
    clear hBW hbd hkw hk1 hk2 hall hacc hsn hsb hst htv hdt hdv
    gi_wp2_with fail
    refine ⟨trivial, CallsIn.inRound l' (callsIn_wide.2 ((ham_dec_yes x9.1 _ x9.2 HTW.out.1).mono ?_))⟩
    rintro r w7 ⟨rfl, hb7⟩
    rw [HDT.out, HDV.out]
    have HB7 := Lib.hid hb7
    have HW7 := Lib.hid (HKW.out.after HB7.out)
    have hcw := HW7.out.cell 0
    have hfw := HW7.out.free 0
    have HB37 : Hid (Below b3 w w7) := HBW.out.trans (HB7.out.mono (by have := HBW.out.size; omega))
    have HBD7 := Lib.hid (HBD.out.after HB7.out)
    have HK17 := Lib.hid (HK1.out.after HB7.out)
    have HK27 := Lib.hid (HK2.out.after HB7.out)
    have HKB7 : Hid (KeepB [b5, b5 + 1] W w7) := KeepB.of_below HB7.out (by have := HK1.out.lt; have := HK2.out.lt; simp; omega)
    clear hb7
    rcases hcs with h4 | ⟨h2 | h3, hz⟩
    · subst h4
      gi_wp2_with fail
      exact ⟨(keeps_of_below _ HB7.out).trans (keeps_set _ _ _), ⟨rfl, by rw [HSB.out]; rfl, ⟨acc, Bld.set (HBD.out.after HB7.out) HW7.out (by omega) (by decide) _⟩, HW7.out.set 0 _ rfl⟩, HB37.out.setCell (p := ⟨bw, 0, none⟩) (Nat.le_of_lt hl3w) _⟩
    · subst h2
      gi_wp2_with fail
      refine ⟨trivial, CallsIn.inRound l' (callsIn_wide.2 ((bld_write b3 b3 acc dt _ HBD7.out (by omega)).mono ?_))⟩
      rintro r w8 ⟨rfl, hbd8, hb8, hk8⟩
      have HBD8 := Lib.hid hbd8
      have HB8 := Lib.hid hb8
      have HK8 := Lib.hid hk8
      clear hbd8 hb8 hk8
      gi_wp2_with fail
      exact ⟨(keeps_of_below _ HB7.out).trans (keepsFrom_others _ HK8.out HB8.out.size HBD7.out.cells), HKB7.out.trans (keepB_two HK8.out HK17.out HK27.out (by omega) (by omega) (by decide) (by decide)),
        ⟨by rw [HSB.out]; rfl, by rw [HSN.out]; exact HBD8.out, by rw [HST.out]; exact blk_others HK8.out HW7.out hx3 (by decide), blk_others HK8.out HK17.out (by omega) (by decide), blk_others HK8.out HK27.out (by omega) (by decide)⟩, HB37.out.trans HB8.out⟩
    · subst h3
      gi_wp2_with fail
      have HBD7s := Lib.hid (HBD7.out.set (i := 0) HW7.out hx3 (by decide) (.int .i64 3))
      refine ⟨trivial, CallsIn.inRound l' (callsIn_wide.2 ((bld_write b3 b3 acc dt _ HBD7s.out (by omega)).mono ?_))⟩
      rintro r w8 ⟨rfl, hbd8, hb8, hk8⟩
      have HBD8 := Lib.hid hbd8
      have HB8 := Lib.hid hb8
      have HK8 := Lib.hid hk8
      have HW7s : Hid (Blk (w7.setCell ⟨bw, 0, none⟩ (.int .i64 3)) bw #[.int .i64 3] 3) := HW7.out.set 0 _ rfl
      have HK17s : Hid (Blk (w7.setCell ⟨bw, 0, none⟩ (.int .i64 3)) b5 #[.string s] 9) := HK17.out.set_other (by omega) _ _
      have HK27s : Hid (Blk (w7.setCell ⟨bw, 0, none⟩ (.int .i64 3)) (b5 + 1) #[.int .i64 9] 3) := HK27.out.set_other (by omega) _ _
      clear hbd8 hb8 hk8
      gi_wp2_with fail
      exact ⟨(keeps_of_below _ HB7.out).trans ((keeps_set _ _ _).trans (keepsFrom_others _ HK8.out HB8.out.size HBD7s.out.cells)), HKB7.out.trans ((KeepB.set 0 _ (by simp; omega)).trans (keepB_two HK8.out HK17s.out HK27s.out (by omega) (by omega) (by decide) (by decide))),
        ⟨by rw [HSB.out]; rfl, by rw [HSN.out]; exact HBD8.out, by rw [HST.out]; exact blk_others HK8.out HW7s.out hx3 (by decide), blk_others HK8.out HK17s.out (by omega) (by decide), blk_others HK8.out HK27s.out (by omega) (by decide)⟩, (HB37.out.setCell (p := ⟨bw, 0, none⟩) (Nat.le_of_lt hl3w) _).trans HB8.out⟩
  case done =>
    rintro D ys W hD hys ⟨⟨hall, hbd, hkw, _, _⟩, hBW⟩ hK
    have hres : badTo s (s.size / 9) = false := by rw [← badL_pcs, ← hys]; exact hall
    have hht : heldL (ys.map (·.1)) = heldTo s (s.size / 9) := by rw [hys, heldL_pcs]
    have htt : toldL (ys.map (·.1)) = toldTo s (s.size / 9) := by rw [hys, toldL_pcs]
    rw [hht] at hbd
    rw [htt] at hkw
    have HR := Lib.hid hres
    have HBW := Lib.hid hBW
    have HBD := Lib.hid hbd
    have HKW := Lib.hid hkw
    have HK := Lib.hid hK
    have HD := Lib.hid hD
    have hcw := hkw.cell 0
    clear hBW hys hres hK hbd hkw hD hall hht htt
    go_wp2_with fail
    have HC : Hid (CU w b3 bw D (heldTo s (s.size / 9)) (toldTo s (s.size / 9)) W) := ⟨HBD.out, HKW.out, HK.out, HBW.out, hx3, by have := HD.out; omega⟩
    obtain ⟨t, ht⟩ : ∃ t, heldTo s (s.size / 9) = t := ⟨_, rfl⟩
    obtain ⟨v, hv⟩ : ∃ v, toldTo s (s.size / 9) = v := ⟨_, rfl⟩
    rw [ht, hv] at HC
    have HTV : Hid (t = heldTo s (s.size / 9) ∧ v = toldTo s (s.size / 9)) := ⟨ht.symm, hv.symm⟩
    clear ht hv hcw
    clear HBD HKW
    refine wp_region_list3 (SV (vsUN t v) []) (BaseUN b3 bw D) (CU w b3 bw D t v) (fun _ _ => True) (RV (vsUN t v) (fun _ _ _ => True)) rfl (by kernel_rfl) (RV.ext (fun _ _ _ _ _ _ _ _ => trivial)) ?base HC.out.drew (BaseUN.of _ (by kernel_rfl)) ?steps ?fin
    case base => exact ⟨BaseUN.put26, BaseUN.put27, BaseUN.put2, BaseUN.put3, trivial⟩
    case steps =>
      refine ⟨?_, ?_, ?_, ?_, trivial⟩
      all_goals
        intro a w' hC hB hR
        obtain ⟨u, rfl⟩ := hB
        have HC := Lib.hid hC
        clear hC
      · clear hR
        refine if_yes (by kernel_rfl) ?_
        unfold Oper.wp
        go_simp
        refine (bld_string b3 b3 t _ HC.out.1).mono ?_
        rintro r w2 ⟨rfl, hbd2, hb2, hk2⟩
        exact ⟨.string t, rfl, HC.out.call hbd2 hb2 hk2, trivial, rfl⟩
      · have hcw := HC.out.2.1.cell 0
        clear hR
        refine if_yes (by kernel_rfl) ?_
        unfold Oper.wp
        go_simp
        exact ⟨.int .i64 v, rfl, HC.out, trivial, rfl⟩
      · have h26 : u 26 = .string t := hR ⟨0, .data⟩ (by simp) rfl
        clear hR
        simp only [h26]
        clear h26
        refine if_yes (by kernel_rfl) ?_
        unfold Oper.wp
        go_simp
        exact ⟨.string t, rfl, HC.out, trivial, rfl⟩
      · have h27 : u 27 = .int .i64 v := hR ⟨1, .data⟩ (by simp) rfl
        clear hR
        simp only [h27]
        clear h27
        refine if_yes (by kernel_rfl) ?_
        unfold Oper.wp
        go_simp
        exact ⟨.int .i64 v, rfl, HC.out, trivial, rfl⟩
    case fin =>
      intro a w' hC hB hR
      obtain ⟨u, rfl⟩ := hB
      have h2 : u 2 = .string t := hR 2 (by decide)
      have h3 : u 3 = .int .i64 v := hR 3 (by decide)
      clear hR
      simp only [h2, h3]
      clear h2 h3
      have HC := Lib.hid hC
      clear hC
      go_wp2_with fail
      have hQ := HQ.out
      subst hQ
      rw [Exit.noGoto_ret]
      exact leave_one rfl HC.out.2.2.1 (results_tmp2 rfl _ _ _) ⟨⟨t, v, rfl, fun h => (Bool.noConfusion (HR.out.symm.trans h)), fun _ => HTV.out⟩, below_mark (by rw [hb3]; exact HC.out.2.2.2.1) (by have := HD.out; omega) HC.out.2.2.1⟩
  case stop =>
    rintro D c pre W hD ⟨k, hk, hpre⟩ ⟨⟨rfl, hall, ⟨t, hbd⟩, hkw⟩, hBW⟩ hK
    have hres : badTo s (s.size / 9) = true := bad_later (k := k) (by rw [← badL_pcs, ← hpre]; exact hall) hk
    have HR := Lib.hid hres
    have HBW := Lib.hid hBW
    have HBD := Lib.hid hbd
    have HKW := Lib.hid hkw
    have HK := Lib.hid hK
    have HD := Lib.hid hD
    have hcw := hkw.cell 0
    clear hBW hpre hres hK hbd hkw hD hall hk
    gi_wp2_with fail
    go_wp2_with fail
    have HC : Hid (CU w b3 bw D t 4 W) := ⟨HBD.out, HKW.out, HK.out, HBW.out, hx3, by have := HD.out; omega⟩
    obtain ⟨v, hv⟩ : ∃ v : Int, 4 = v := ⟨_, rfl⟩
    rw [hv] at HC
    have HTV := Lib.hid hv
    clear hv hcw
    clear HBD HKW
    refine wp_region_list3 (SV (vsUN t v) []) (BaseUN b3 bw D) (CU w b3 bw D t v) (fun _ _ => True) (RV (vsUN t v) (fun _ _ _ => True)) rfl (by kernel_rfl) (RV.ext (fun _ _ _ _ _ _ _ _ => trivial)) ?base HC.out.drew (BaseUN.of _ (by kernel_rfl)) ?steps ?fin
    case base => exact ⟨BaseUN.put26, BaseUN.put27, BaseUN.put2, BaseUN.put3, trivial⟩
    case steps =>
      refine ⟨?_, ?_, ?_, ?_, trivial⟩
      all_goals
        intro a w' hC hB hR
        obtain ⟨u, rfl⟩ := hB
        have HC := Lib.hid hC
        clear hC
      · clear hR
        refine if_yes (by kernel_rfl) ?_
        unfold Oper.wp
        go_simp
        refine (bld_string b3 b3 t _ HC.out.1).mono ?_
        rintro r w2 ⟨rfl, hbd2, hb2, hk2⟩
        exact ⟨.string t, rfl, HC.out.call hbd2 hb2 hk2, trivial, rfl⟩
      · have hcw := HC.out.2.1.cell 0
        clear hR
        refine if_yes (by kernel_rfl) ?_
        unfold Oper.wp
        go_simp
        exact ⟨.int .i64 v, rfl, HC.out, trivial, rfl⟩
      · have h26 : u 26 = .string t := hR ⟨0, .data⟩ (by simp) rfl
        clear hR
        simp only [h26]
        clear h26
        refine if_yes (by kernel_rfl) ?_
        unfold Oper.wp
        go_simp
        exact ⟨.string t, rfl, HC.out, trivial, rfl⟩
      · have h27 : u 27 = .int .i64 v := hR ⟨1, .data⟩ (by simp) rfl
        clear hR
        simp only [h27]
        clear h27
        refine if_yes (by kernel_rfl) ?_
        unfold Oper.wp
        go_simp
        exact ⟨.int .i64 v, rfl, HC.out, trivial, rfl⟩
    case fin =>
      intro a w' hC hB hR
      obtain ⟨u, rfl⟩ := hB
      have h2 : u 2 = .string t := hR 2 (by decide)
      have h3 : u 3 = .int .i64 v := hR 3 (by decide)
      clear hR
      simp only [h2, h3]
      clear h2 h3
      have HC := Lib.hid hC
      clear hC
      go_wp2_with fail
      have hQ := HQ.out
      subst hQ
      rw [Exit.noGoto_ret]
      exact leave_one rfl HC.out.2.2.1 (results_tmp2 rfl _ _ _) ⟨⟨t, v, rfl, fun _ => HTV.out.symm, fun h => (Bool.noConfusion (HR.out.symm.trans h))⟩, below_mark (by rw [hb3]; exact HC.out.2.2.2.1) (by have := HD.out; omega) HC.out.2.2.1⟩

end Go.Proofs.YtlacmfacigfioaaDoor

/- Package frame, walked: isBlank. -/
namespace Go.Proofs.YtlacmfacigfioaaDoor
set_option maxRecDepth 100000
open Go.RowKit
attribute [local go_sem] Oper.semAt_some

/-- what a function of one result gives, that lies in a cell of its own -/
theorem results_cell_one {P : Program} {fn : Func} {p : Tmp} {ty : TypeId} (h : fn.results = #[.cell p ty]) (tmps : Array Value) (w : World) (g : Nat) (v : Value)
    (hp : tmps.getD p undef = .pointer (some ⟨g, 0, none⟩)) (hc : w.cell? ⟨g, 0, none⟩ = some v) (ha : ∀ w, (isAgg ty).run P w = .ok false w) : (results fn tmps).run P w = .ok v w := by
  have hp' : tmps[p]?.getD undef = .pointer (some ⟨g, 0, none⟩) := by simpa using hp
  simp [results, h, hp', asAddr, loadVar, ha]
  rw [hc]
/-- no text of these has more than one bit that is 0 -/
def allB (l : List ByteArray) : Bool := l.all fun x => decide (zs x.data.toList ≤ 1)
theorem allB_snoc (l : List ByteArray) (x : ByteArray) : allB (l ++ [x]) = (allB l && decide (zs x.data.toList ≤ 1)) := by simp [allB]
theorem allB_pcs (s : ByteArray) : ∀ k, allB (pcs s 9 k) = blankTo s k
  | 0 => rfl
  | k + 1 => by rw [pcs_succ, allB_snoc, allB_pcs s k]; rfl
theorem blank_later {s : ByteArray} {k c : Nat} (h : blankTo s k = false) (hc : k ≤ c) : blankTo s c = false := by
  induction c with
  | zero => rw [← Nat.le_zero.1 hc]; exact h
  | succ c ih =>
    by_cases e : k = c + 1
    · rw [← e]; exact h
    · show (blankTo s c && _) = false
      rw [ih (by omega)]; rfl
theorem zs_all (x : ByteArray) : zsTo x x.size = zs x.data.toList := by
  unfold zsTo
  rw [List.take_of_length_le (by simp)]

set_option maxHeartbeats 2000000 in
theorem fr_isBlank (s : ByteArray) (w : World) (hs : s.size ≤ 400) (hd : 9 * (s.size / 9) = s.size) :
    Calls Tryd.prog 34 #[.string s] w fun r w' => r = .returned (.bool (blankTo s (s.size / 9))) ∧ Below w.heap.size w w' := by
  refine calls_of_marks Tryd.func34 rfl ?_
  simp only [Tryd.ntmps34, List.size_toArray, List.length_cons, List.length_nil, Nat.reduceAdd, Nat.reduceSub, Array.replicate_succ, Array.replicate_zero, List.push_toArray, List.append_toArray, List.nil_append, List.cons_append]
  go_wp2_with fail
  refine (pieces_any s 9 _).mono ?_
  rintro r w1 ⟨rfl, rfl⟩
  go_wp2_with fail
  obtain ⟨w0, hw0⟩ : ∃ w0, w.alloc (.cells #[.bool false] 4) = w0 := ⟨_, rfl⟩
  have hb0 : Below w.heap.size w w0 := by rw [← hw0]; exact (Below.refl _ _).alloc (Nat.le_refl _) _
  have hz0 : w0.heap.size = w.heap.size + 1 := by rw [← hw0]; simp
  have g0 : Blk w0 w.heap.size #[.bool false] 4 := by rw [← hw0]; exact Blk.new w _ _
  rw [hw0, show w.heap.size + 1 = w0.heap.size from hz0.symm]
  obtain ⟨w6, hw6⟩ : ∃ w6, (w0.alloc (.cells #[.string s] 9)).alloc (.cells #[.int .i64 9] 3) = w6 := ⟨_, rfl⟩
  have hb6 : Below w0.heap.size w0 w6 := by rw [← hw6]; exact ((Below.refl _ _).alloc (Nat.le_refl _) _).alloc (by simp) _
  have hz6 : w6.heap.size = w0.heap.size + 2 := by rw [← hw6]; simp
  have g1 : Blk w6 w0.heap.size #[.string s] 9 := by rw [← hw6]; exact (Blk.new w0 #[.string s] 9).alloc _
  have g2 : Blk w6 (w0.heap.size + 1) #[.int .i64 9] 3 := by
    rw [← hw6]
    have h := Blk.new (w0.alloc (.cells #[.string s] 9)) #[.int .i64 9] 3
    rwa [World.size_alloc] at h
  have HB6 := Lib.hid (hb0.trans (hb6.mono hb0.size))
  have g3 := g0.after hb6
  have hc1 := g1.cell 0
  have hc2 := g2.cell 0
  rw [hw6]
  generalize w0.heap.size = b5 at hb6 hz0 hz6 g1 g2 hc1 hc2 ⊢
  generalize hb3 : w.heap.size = b3 at *
  have HZ0 := Lib.hid hz0
  have hlt35 : b3 < b5 := by omega
  clear hw6 hb6 hw0 hb0 g0 hz0
  refine wpIn_wide.1 (wpIn_rangeFunc_ownG (F := Fence.wide) (n := 9) rfl (by decide) (gf := 50) (lb := #[.pointer (some ⟨b5, 0, none⟩), .pointer (some ⟨b5 + 1, 0, none⟩)]) rfl trivial (enters_of Tryd.func50 (by kernel_rfl) rfl)
    (pieces_stops 8 (by decide) b5 (b5 + 1) 9 s (by decide) (by decide) (by omega) hd w6 (by omega) (by omega) hc1 hc2) KeepB.trans (KeepB.mark (by simp; omega)) (Below.refl _ _) (fun _ => rfl)
    (fun pre W => (allB (pre.map (·.1)) = true ∧ Blk W b3 #[.bool false] 4) ∧ Below b3 w W)
    (fun c pre W => (c = .ret ∧ allB (pre.map (·.1)) = false ∧ Blk W b3 #[.bool false] 4) ∧ Below b3 w W)
    (OwnFrom.and (Own.from (fun s A B row hs hg hr => ⟨hs.1, blk_kept hs.2 hg hr⟩) _) (ownFrom_below (by omega) (by omega)))
    (fun c => OwnFrom.and (Own.from (fun s A B row hs hg hr => ⟨hs.1, hs.2.1, blk_kept hs.2.2 hg hr⟩) _) (ownFrom_below (by omega) (by omega)))
    ⟨⟨rfl, g3⟩, HB6.out⟩
    (fun x9 => { tmps := #[Value.string s, undef, Value.pointer (some { block := b3, off := 0 }), Value.string x9.1, Value.string s,
          Value.func (Fn.func 50) #[]
            #[Value.pointer (some { block := b5, off := 0 }), Value.pointer (some { block := b5 + 1, off := 0 })],
          Value.string x9.1, undef, undef, undef], defers := [] }) ?assign ?body ?done ?stop)
  case assign =>
    intro l' x9 W K hK
    gi_wp2
    exact hK
  case body =>
    rintro l' pre x9 W ⟨⟨hall, hk3⟩, hBW⟩ hlen
    have HBW := Lib.hid hBW
    have HK3 := Lib.hid hk3
    have hsn : allB ((pre ++ [x9]).map (·.1)) = decide (zs x9.1.data.toList ≤ 1) := by rw [List.map_append, List.map_singleton, allB_snoc, hall]; rfl
    have hx9 : x9.1.size ≤ 1000 := by rw [x9.2]; decide
    have hzz := zs_all x9.1
    have hb9 : zs x9.1.data.toList ≤ 1000 := by have := zs_le x9.1.data.toList; have := x9.2; simp at *; omega
    obtain ⟨n, hn⟩ : ∃ n, zs x9.1.data.toList = n := ⟨_, rfl⟩
    rw [hn] at hsn hzz hb9
    have HSN := Lib.hid hsn
    have HZZ := Lib.hid hzz
    have hc3 := hk3.cell 0
    have hf3 := hk3.free 0
    clear hBW hk3 hall hsn hzz hn
    gi_wp2_with fail
    refine ⟨trivial, CallsIn.inRound l' (callsIn_wide.2 ((zeros_any x9.1 _ hx9).mono ?_))⟩
    rintro r w7 ⟨rfl, rfl⟩
    rw [HZZ.out]
    by_cases h1 : n ≤ 1
    · have h1i : ¬ (1 : Int) < (n : Int) := by omega
      have HA : Hid (allB ((pre ++ [x9]).map (·.1)) = true) := by rw [HSN.out]; exact decide_eq_true h1
      gi_wp2_with fail
      exact ⟨KeepsFrom.refl _ _, KeepB.refl _ _, ⟨HA.out, HK3.out⟩, HBW.out⟩
    · have h1i : (1 : Int) < (n : Int) := by omega
      have HA : Hid (allB ((pre ++ [x9]).map (·.1)) = false) := by rw [HSN.out]; exact decide_eq_false h1
      gi_wp2_with fail
      exact ⟨keeps_set _ _ _, ⟨rfl, HA.out, HK3.out.set 0 _ rfl⟩, HBW.out.setCell (p := ⟨b3, 0, none⟩) (Nat.le_refl _) _⟩
  case done =>
    rintro D ys W hD hys ⟨⟨hall, hk3⟩, hBW⟩ hK
    have hres : blankTo s (s.size / 9) = true := by rw [← allB_pcs, ← hys]; exact hall
    have HR := Lib.hid hres
    have HBW := Lib.hid hBW
    have HK3 := Lib.hid hk3
    have HK := Lib.hid hK
    have HD := Lib.hid hD
    have hc3 := hk3.cell 0
    have hf3 := hk3.free 0
    clear hBW hys hres hK hk3 hD hall
    go_wp2_with fail
    have hW := HK3.out.set 0 (.bool true) rfl
    have hKs : (W.setCell ⟨b3, 0, none⟩ (.bool true)).heap[D]? = some (.deferred (some [])) := (Below.heap_setCell _ _ _ _ (by have := HD.out; simp; omega)).trans HK.out
    exact leave_one rfl hKs (results_cell_one rfl _ _ b3 _ rfl ((blk_mark hW hKs).cell 0) Tryd.isAgg4) ⟨by rw [HR.out]; rfl, below_mark (by rw [hb3]; exact HBW.out.setCell (p := ⟨b3, 0, none⟩) (Nat.le_refl _) _) (by have := HD.out; omega) hKs⟩
  case stop =>
    rintro D c pre W hD ⟨k, hk, hpre⟩ ⟨⟨rfl, hall, hk3⟩, hBW⟩ hK
    have hres : blankTo s (s.size / 9) = false := blank_later (k := k) (by rw [← allB_pcs, ← hpre]; exact hall) hk
    have HR := Lib.hid hres
    have HBW := Lib.hid hBW
    have HK3 := Lib.hid hk3
    have HK := Lib.hid hK
    have HD := Lib.hid hD
    clear hBW hres hK hk3 hall hpre hD
    gi_wp2_with fail
    exact leave_one rfl HK.out (results_cell_one rfl _ _ b3 _ rfl ((blk_mark HK3.out HK.out).cell 0) Tryd.isAgg4) ⟨by rw [HR.out]; rfl, below_mark (by rw [hb3]; exact HBW.out) (by have := HD.out; omega) HK.out⟩

end Go.Proofs.YtlacmfacigfioaaDoor

/- Package frame, walked: opened. -/
namespace Go.Proofs.YtlacmfacigfioaaDoor
set_option maxRecDepth 100000
open Go.RowKit

theorem text_same {a b : ByteArray} (h : a.toList = b.toList) : a = b := by
  rw [ByteArray.toList_eq, ByteArray.toList_eq] at h
  exact bytes_eq h
/-- what opened answers of what chunks hold -/
def OpnPost (o : ByteArray) (w : World) (r : Ending) (w' : World) : Prop :=
  (∃ k' l' q' e' dt ok, r = .returned (.tuple #[.agg (ta k' l' q' e'), .string dt, .bool ok]) ∧ ok = decide (HoldsPage o) ∧ (HoldsPage o → ta k' l' q' e' = ta (byteT (o.extract 0 16) 1) (lT (o.extract 0 16)) (qT (o.extract 0 16)) (eT (o.extract 0 16)) ∧ dt = o.extract 16 (o.size - 8))) ∧ Below w.heap.size w w'

/-- what each operation of the region OP leaves -/
def vsOP (k' l' q' e' : Int) (bd dt : ByteArray) (n m : Nat) (e : Int) (b : Bool) : List (Option (Tmp × Value)) :=
  [some (29, .agg (ta k' l' q' e')), some (30, .string bd), some (31, .string bd), some (32, .int .i64 n), some (33, .int .i64 (m : Int)), some (34, .string dt), some (35, .int .i64 e), some (36, .bool b), none, some (3, .string dt), some (4, .bool b)]
/-- the frame while the region OP runs -/
def BaseOP (g : Nat) (bd : ByteArray) (e : Int) (a : Act) : Prop := ∃ u : Nat → Value, a = ⟨#[u 0, u 1, .pointer (some ⟨g, 0, none⟩), u 3, u 4, .string bd, .int .i64 e, u 7, u 8, u 9, u 10, u 11, u 12, u 13, u 14, u 15, u 16, u 17, u 18, u 19, u 20, u 21, u 22, u 23, u 24, u 25, u 26, u 27, u 28, u 29, u 30, u 31, u 32, u 33, u 34, u 35, u 36], []⟩
theorem BaseOP.of {g : Nat} {bd : ByteArray} {e : Int} (arr : Array Value) (h : arr = #[arr.getD 0 undef, arr.getD 1 undef, .pointer (some ⟨g, 0, none⟩), arr.getD 3 undef, arr.getD 4 undef, .string bd, .int .i64 e, arr.getD 7 undef, arr.getD 8 undef, arr.getD 9 undef, arr.getD 10 undef, arr.getD 11 undef, arr.getD 12 undef, arr.getD 13 undef, arr.getD 14 undef, arr.getD 15 undef, arr.getD 16 undef, arr.getD 17 undef, arr.getD 18 undef, arr.getD 19 undef, arr.getD 20 undef, arr.getD 21 undef, arr.getD 22 undef, arr.getD 23 undef, arr.getD 24 undef, arr.getD 25 undef, arr.getD 26 undef, arr.getD 27 undef, arr.getD 28 undef, arr.getD 29 undef, arr.getD 30 undef, arr.getD 31 undef, arr.getD 32 undef, arr.getD 33 undef, arr.getD 34 undef, arr.getD 35 undef, arr.getD 36 undef]) : BaseOP g bd e ⟨arr, []⟩ := ⟨fun i => arr.getD i undef, by rw [← h]⟩
theorem BaseOP.put29 {g : Nat} {bd : ByteArray} {e : Int} (a : Act) (v : Value) (h : BaseOP g bd e a) : BaseOP g bd e (a.put (some 29) v) := by
  obtain ⟨u, rfl⟩ := h
  exact ⟨fun i => if i = 29 then v else u i, by kernel_rfl⟩
theorem BaseOP.put30 {g : Nat} {bd : ByteArray} {e : Int} (a : Act) (v : Value) (h : BaseOP g bd e a) : BaseOP g bd e (a.put (some 30) v) := by
  obtain ⟨u, rfl⟩ := h
  exact ⟨fun i => if i = 30 then v else u i, by kernel_rfl⟩
theorem BaseOP.put31 {g : Nat} {bd : ByteArray} {e : Int} (a : Act) (v : Value) (h : BaseOP g bd e a) : BaseOP g bd e (a.put (some 31) v) := by
  obtain ⟨u, rfl⟩ := h
  exact ⟨fun i => if i = 31 then v else u i, by kernel_rfl⟩
theorem BaseOP.put32 {g : Nat} {bd : ByteArray} {e : Int} (a : Act) (v : Value) (h : BaseOP g bd e a) : BaseOP g bd e (a.put (some 32) v) := by
  obtain ⟨u, rfl⟩ := h
  exact ⟨fun i => if i = 32 then v else u i, by kernel_rfl⟩
theorem BaseOP.put33 {g : Nat} {bd : ByteArray} {e : Int} (a : Act) (v : Value) (h : BaseOP g bd e a) : BaseOP g bd e (a.put (some 33) v) := by
  obtain ⟨u, rfl⟩ := h
  exact ⟨fun i => if i = 33 then v else u i, by kernel_rfl⟩
theorem BaseOP.put34 {g : Nat} {bd : ByteArray} {e : Int} (a : Act) (v : Value) (h : BaseOP g bd e a) : BaseOP g bd e (a.put (some 34) v) := by
  obtain ⟨u, rfl⟩ := h
  exact ⟨fun i => if i = 34 then v else u i, by kernel_rfl⟩
theorem BaseOP.put35 {g : Nat} {bd : ByteArray} {e : Int} (a : Act) (v : Value) (h : BaseOP g bd e a) : BaseOP g bd e (a.put (some 35) v) := by
  obtain ⟨u, rfl⟩ := h
  exact ⟨fun i => if i = 35 then v else u i, by kernel_rfl⟩
theorem BaseOP.put36 {g : Nat} {bd : ByteArray} {e : Int} (a : Act) (v : Value) (h : BaseOP g bd e a) : BaseOP g bd e (a.put (some 36) v) := by
  obtain ⟨u, rfl⟩ := h
  exact ⟨fun i => if i = 36 then v else u i, by kernel_rfl⟩
theorem BaseOP.put3 {g : Nat} {bd : ByteArray} {e : Int} (a : Act) (v : Value) (h : BaseOP g bd e a) : BaseOP g bd e (a.put (some 3) v) := by
  obtain ⟨u, rfl⟩ := h
  exact ⟨fun i => if i = 3 then v else u i, by kernel_rfl⟩
theorem BaseOP.put4 {g : Nat} {bd : ByteArray} {e : Int} (a : Act) (v : Value) (h : BaseOP g bd e a) : BaseOP g bd e (a.put (some 4) v) := by
  obtain ⟨u, rfl⟩ := h
  exact ⟨fun i => if i = 4 then v else u i, by kernel_rfl⟩
/-- the world while it runs: the tag's block -/
def CO (w0 : World) (cs : Array Value) (w : World) : Prop := Blk w w0.heap.size cs 23 ∧ Below w0.heap.size w0 w
theorem CO.drew {w0 w : World} {cs : Array Value} (h : CO w0 cs w) : CO w0 cs w.drew := ⟨h.1.drew, h.2.drew⟩
theorem CO.put {w0 w : World} {cs ds : Array Value} (h : CO w0 cs w) : CO w0 ds (w.setRow w0.heap.size ds) := ⟨h.1.put _, below_put (Nat.le_refl _) _ h.2⟩
/-- what a function of three results gives, the first in a block of its own -/
theorem results_cell_tmp2 {P : Program} {fn : Func} {p q r : Tmp} {ty : TypeId} (h : fn.results = #[.cell p ty, .tmp q, .tmp r]) (tmps : Array Value) (w : World) (g : Nat) (t : TypeId) (cs : Array Value) (d : TypeDesc)
    (hp : tmps.getD p undef = .pointer (some ⟨g, 0, none⟩)) (hg : Blk w g cs t)
    (hu : P.underlying ty = some d) (hd : (match d with | .struct _ | .array _ _ => true | _ => false) = true) (hi : (P.info? ty).map (·.size) = some cs.size) :
    (results fn tmps).run P w = .ok (.tuple #[.agg cs, tmps.getD q undef, tmps.getD r undef]) w := by
  have hp' : tmps[p]?.getD undef = .pointer (some ⟨g, 0, none⟩) := by simpa using hp
  simp [results, h, hp', asAddr, run_loadVar_row w g t ty cs (0, 0) d hg hu hd hi]

set_option maxHeartbeats 2000000 in
theorem fr_opened (o : ByteArray) (w : World) (h32 : 32 ≤ o.size) (h280 : o.size ≤ 280) (hT : Tabs w) : Calls Tryd.prog 36 #[.string o] w (OpnPost o w) := by
  unfold OpnPost
  obtain ⟨n, hn⟩ : ∃ n, o.size - 4 = n := ⟨_, rfl⟩
  have hni : (o.size : Int) - 4 = (n : Int) := by omega
  obtain ⟨bd, hbd⟩ : ∃ x, o.extract 0 n = x := ⟨_, rfl⟩
  have hbz : bd.size = n := by rw [← hbd, ByteArray.size_extract]; omega
  obtain ⟨t4, ht4⟩ : ∃ x, o.extract n o.size = x := ⟨_, rfl⟩
  have hx : o.extract 0 16 = bd.extract 0 16 := by rw [← hbd, ByteArray.extract_extract]; congr 1; omega
  have hd : o.extract 16 (o.size - 8) = bd.extract 16 (n - 4) := by rw [← hbd, ByteArray.extract_extract]; congr 1 <;> omega
  obtain ⟨x, hxx⟩ : ∃ x, bd.extract 0 16 = x := ⟨_, rfl⟩
  obtain ⟨dt, hdt⟩ : ∃ x, bd.extract 16 (n - 4) = x := ⟨_, rfl⟩
  obtain ⟨wh, hwh⟩ : ∃ b, wholeB bd = b := ⟨_, rfl⟩
  have hx16 : x.size = 16 := by rw [← hxx, ByteArray.size_extract]; omega
  have HHP : Hid (HoldsPage o ↔ OkT x ∧ t4 = four0 ∧ wh = true) := by show HoldsPage o ↔ _; unfold HoldsPage; rw [hx, hxx, hn, ht4, hbd, hwh]
  rw [hx, hxx, hd, hdt]
  have HBD := Lib.hid hbd
  have HT4 := Lib.hid ht4
  have HX := Lib.hid hxx
  have HDT := Lib.hid hdt
  have HWH := Lib.hid hwh
  have HT := Lib.hid hT
  have hn4 : 28 ≤ n := by omega
  have hn4u : n ≤ 276 := by omega
  have hni4 : (n : Int) - 4 = ((n - 4 : Nat) : Int) := by omega
  clear hx hd hbd ht4 hxx hdt hwh hT hn
  have hmin : min n o.size = n := by omega
  by_cases ht : t4 = four0
  · have hq : ((o.extract n o.size).toList == [0, 0, 0, 0]) = true := by rw [HT4.out, ht]; simp [four0]
    go_enter Tryd.func36, Tryd.ntmps36
    go_wp2_with fail
    rw [HBD.out]
    refine (whole_any bd _ (by omega) ((HT.out.after ((Below.refl _ _).alloc (Nat.le_refl _) _)).2)).mono ?_
    rintro r w2 ⟨rfl, hb2⟩
    rw [HWH.out]
    have HB2 : Hid (Below w.heap.size w w2) := ((Below.refl _ _).alloc (Nat.le_refl _) _).trans (hb2.mono (by simp))
    have HK2 := Lib.hid ((Blk.new w (ta 0 0 0 0) 23).after hb2)
    clear hb2
    cases wh with
    | false =>
      have HN : Hid (¬ HoldsPage o) := by
        show ¬ HoldsPage o
        intro h
        have h2 := (HHP.out.1 h).2.2
        cases h2
      go_wp2_with (refine wpList_store_row rfl 23 (.tmp 2) (.tmp 22) rfl w.heap.size (ta 0 0 0 0) rfl rfl 23 (ta 0 0 0 0) HK2.out size_tag rfl (ta_one _ _ _ _) ?_)
      exact bodyPost_ret (results_cell_tmp2 (P := Tryd.prog) rfl _ _ w.heap.size 23 (ta 0 0 0 0) _ rfl (HK2.out.put _) Tryd.underlying23 rfl size_tag) rfl ⟨⟨_, _, _, _, _, _, rfl, (decide_eq_false HN.out).symm, fun h => absurd h HN.out⟩, below_put (Nat.le_refl _) _ HB2.out⟩
    | true =>
      obtain ⟨e, he⟩ : ∃ e, decE x = e := ⟨_, rfl⟩
      obtain ⟨b, hb⟩ : ∃ b, (e == 0) = b := ⟨_, rfl⟩
      obtain ⟨m, hm⟩ : ∃ m, n - 4 = m := ⟨_, rfl⟩
      rw [hm] at hni4
      have h16 : (16 : Int) ≤ (m : Int) := by omega
      have hmn : m ≤ n := by omega
      have hwm : IntKind.i64.wrap (m : Int) = m := by rw [IntKind.wrap_i64]; omega
      have HDTm : Hid (bd.extract 16 m = dt) := by show bd.extract 16 m = dt; rw [← hm]; exact HDT.out
      obtain ⟨k', l', q', e', hA⟩ : ∃ k' l' q' e', decA x = ta k' l' q' e' := by
        unfold decA
        split
        · exact ⟨_, _, _, _, rfl⟩
        · exact ⟨_, _, _, _, rfl⟩
      have HBO : Hid (b = decide (HoldsPage o) ∧ (HoldsPage o → ta k' l' q' e' = ta (byteT x 1) (lT x) (qT x) (eT x) ∧ dt = dt)) := by
        show b = decide (HoldsPage o) ∧ (HoldsPage o → ta k' l' q' e' = ta (byteT x 1) (lT x) (qT x) (eT x) ∧ dt = dt)
        refine ⟨?_, fun h => ⟨hA.symm.trans (decA_ok (HHP.out.1 h).1), rfl⟩⟩
        rw [← hb, Bool.eq_iff_iff, beq_iff_eq, decide_eq_true_eq, HHP.out, ← he]
        unfold decE
        by_cases hok : OkT x
        · rw [if_pos hok]; exact ⟨fun _ => ⟨hok, ht, rfl⟩, fun _ => rfl⟩
        · rw [if_neg hok]; exact ⟨fun h => absurd h (by decide), fun h => absurd h.1 hok⟩
      have HA := Lib.hid hA
      have HE := Lib.hid he
      clear he hA hm
      go_wp2_with fail
      rw [HX.out]
      refine (tag_dec x _ (by rw [hx16]; decide)).mono ?_
      rintro r w3 ⟨rfl, hb3⟩
      rw [HA.out, HE.out]
      have HB3 : Hid (Below w.heap.size w w3) := HB2.out.trans (hb3.mono HB2.out.size)
      have HK3 := Lib.hid (HK2.out.after hb3)
      clear hb3
      go_wp2_with (refine wpList_store_row rfl 23 (.tmp 2) (.tmp 27) rfl w.heap.size (ta k' l' q' e') rfl rfl 23 (ta 0 0 0 0) HK3.out size_tag rfl (ta_one _ _ _ _) ?_)
      have HC : Hid (CO w (ta k' l' q' e') (w3.setRow w.heap.size (ta k' l' q' e'))) := CO.put (cs := ta 0 0 0 0) ⟨HK3.out, HB3.out⟩
      refine wp_region_list3 (SV (vsOP k' l' q' e' bd dt n m e b) []) (BaseOP w.heap.size bd e) (CO w (ta k' l' q' e')) (fun _ _ => True) (RV (vsOP k' l' q' e' bd dt n m e b) (fun _ _ _ => True)) rfl (by kernel_rfl) (RV.ext (fun _ _ _ _ _ _ _ _ => trivial)) ?base HC.out.drew (BaseOP.of _ (by kernel_rfl)) ?steps ?fin
      case base => exact ⟨BaseOP.put29, BaseOP.put30, BaseOP.put31, BaseOP.put32, BaseOP.put33, BaseOP.put34, BaseOP.put35, BaseOP.put36, fun a v h => h, BaseOP.put3, BaseOP.put4, trivial⟩
      case steps =>
        refine ⟨?_, ?_, ?_, ?_, ?_, ?_, ?_, ?_, ?_, ?_, ?_, trivial⟩
        all_goals
          intro a w' hC hB hR
          obtain ⟨u, rfl⟩ := hB
          have HC := Lib.hid hC
          clear hC
        · clear hR
          refine if_yes (by kernel_rfl) ?_
          exact wp_load_row 23 (.tmp 2) rfl _ rfl 23 _ (0, 0) _ HC.out.1 Tryd.underlying23 rfl size_tag ⟨.agg (ta k' l' q' e'), rfl, HC.out, trivial, rfl⟩
        · clear hR
          refine if_yes (by kernel_rfl) ?_
          unfold Oper.wp
          go_simp
          exact ⟨.string bd, rfl, HC.out, trivial, rfl⟩
        · clear hR
          refine if_yes (by kernel_rfl) ?_
          unfold Oper.wp
          go_simp
          exact ⟨.string bd, rfl, HC.out, trivial, rfl⟩
        · have h31 : u 31 = .string bd := hR ⟨2, .data⟩ (by simp) rfl
          clear hR
          simp only [h31]
          clear h31
          refine if_yes (by kernel_rfl) ?_
          unfold Oper.wp
          go_simp
          exact ⟨.int .i64 n, rfl, HC.out, trivial, rfl⟩
        · have h32 : u 32 = .int .i64 n := hR ⟨3, .data⟩ (by simp) rfl
          clear hR
          simp only [h32]
          clear h32
          refine if_yes (by kernel_rfl) ?_
          unfold Oper.wp
          go_simp
          exact ⟨.int .i64 (m : Int), rfl, HC.out, trivial, rfl⟩
        · have hdt := HDTm.out
          have h30 : u 30 = .string bd := hR ⟨1, .data⟩ (by simp) rfl
          have h33 : u 33 = .int .i64 (m : Int) := hR ⟨4, .data⟩ (by simp) rfl
          clear hR
          simp only [h30, h33]
          clear h30 h33
          refine if_yes (by kernel_rfl) ?_
          unfold Oper.wp
          go_simp
          exact ⟨.string dt, rfl, HC.out, trivial, rfl⟩
        · clear hR
          refine if_yes (by kernel_rfl) ?_
          unfold Oper.wp
          go_simp
          exact ⟨.int .i64 e, rfl, HC.out, trivial, rfl⟩
        · have h35 : u 35 = .int .i64 e := hR ⟨6, .data⟩ (by simp) rfl
          clear hR
          simp only [h35]
          clear h35
          refine if_yes (by kernel_rfl) ?_
          unfold Oper.wp
          go_simp
          exact ⟨.bool b, rfl, HC.out, trivial, rfl⟩
        · have h29 : u 29 = .agg (ta k' l' q' e') := hR ⟨0, .data⟩ (by simp) rfl
          clear hR
          simp only [h29]
          clear h29
          refine if_yes (by kernel_rfl) ?_
          exact wp_store_row 23 (.tmp 2) (.tmp 29) rfl w.heap.size (ta k' l' q' e') rfl rfl 23 (ta k' l' q' e') HC.out.1 size_tag rfl (ta_one _ _ _ _) ⟨undef, rfl, HC.out.put, trivial, trivial⟩
        · have h34 : u 34 = .string dt := hR ⟨5, .data⟩ (by simp) rfl
          clear hR
          simp only [h34]
          clear h34
          refine if_yes (by kernel_rfl) ?_
          unfold Oper.wp
          go_simp
          exact ⟨.string dt, rfl, HC.out, trivial, rfl⟩
        · have h36 : u 36 = .bool b := hR ⟨7, .data⟩ (by simp) rfl
          clear hR
          simp only [h36]
          clear h36
          refine if_yes (by kernel_rfl) ?_
          unfold Oper.wp
          go_simp
          exact ⟨.bool b, rfl, HC.out, trivial, rfl⟩
      case fin =>
        intro a w' hC hB hR
        obtain ⟨u, rfl⟩ := hB
        have h3 : u 3 = .string dt := hR 9 (by decide)
        have h4 : u 4 = .bool b := hR 10 (by decide)
        clear hR
        simp only [h3, h4]
        clear h3 h4
        have HC := Lib.hid hC
        clear hC
        go_wp2_with fail
        exact bodyPost_ret (results_cell_tmp2 (P := Tryd.prog) rfl _ _ w.heap.size 23 (ta k' l' q' e') _ rfl HC.out.1 Tryd.underlying23 rfl size_tag) rfl ⟨⟨_, _, _, _, _, _, rfl, HBO.out.1, fun h => ⟨(HBO.out.2 h).1, rfl⟩⟩, HC.out.2⟩
  · have hq : ((o.extract n o.size).toList == [0, 0, 0, 0]) = false := by
      rw [HT4.out, Bool.eq_false_iff]
      intro h
      have h2 : t4.toList = [0, 0, 0, 0] := by simpa using h
      exact ht (text_same (b := four0) (by rw [h2]; simp [four0]))
    have HN : Hid (¬ HoldsPage o) := fun h => ht (HHP.out.1 h).2.1
    go_enter Tryd.func36, Tryd.ntmps36
    go_wp2_with (refine wpList_store_row rfl 23 (.tmp 2) (.tmp 22) rfl w.heap.size (ta 0 0 0 0) rfl rfl 23 (ta 0 0 0 0) (Blk.new w _ _) size_tag rfl (ta_one _ _ _ _) ?_)
    exact bodyPost_ret (results_cell_tmp2 (P := Tryd.prog) rfl _ _ w.heap.size 23 (ta 0 0 0 0) _ rfl ((Blk.new w _ _).put _) Tryd.underlying23 rfl size_tag) rfl ⟨⟨_, _, _, _, _, _, rfl, (decide_eq_false HN.out).symm, fun h => absurd h HN.out⟩, below_put (Nat.le_refl _) _ ((Below.refl _ _).alloc (Nat.le_refl _) _)⟩

end Go.Proofs.YtlacmfacigfioaaDoor

/- Package frame, walked: Decode; with Encode, Blank, Hurt all that the laws of layer 5 ask of it. -/
namespace Go.Proofs.YtlacmfacigfioaaDoor
set_option maxRecDepth 100000
open Go.RowKit

theorem ta_inj {k l q e k' l' q' e' : Int} (h : ta k l q e = ta k' l' q' e') : k = k' ∧ l = l' ∧ q = q' ∧ e = e' := by simpa [ta] using h

theorem wp_page {o : Oper} {a : Act} {w : World} {K : Act → World → Prop} {Q : Exit → Act → World → Prop} (x y z : Operand) (ho : o.op = .build 30 #[(0, x), (1, y), (2, z)])
    (f k l q e : Int) (d : ByteArray) (hx : a.eval x = .int .i64 f) (hy : a.eval y = .agg (ta k l q e)) (hz : a.eval z = .string d) (h : K (a.put o.dst (.agg (pv f k l q e d))) w) : o.wp Tryd.prog a w K Q := by
  have hb := build_page f k l q e d w
  unfold Oper.wp execOp
  simp only [ho, List.map_toArray, List.map_cons, List.map_nil, hx, hy, hz, Sem.run_bind, hb, Result.andThen_ok, Sem.run_pure]
  exact h
theorem wpList_page {ops : Array Oper} {rest : List Oper} {o : Oper} {a : Act} {w : World} {Q : Exit → Act → World → Prop} (hgd : o.guard = none) (x y z : Operand) (ho : o.op = .build 30 #[(0, x), (1, y), (2, z)])
    (f k l q e : Int) (d : ByteArray) (hx : a.eval x = .int .i64 f) (hy : a.eval y = .agg (ta k l q e)) (hz : a.eval z = .string d) (h : wpList Tryd.prog ops Q rest (a.put o.dst (.agg (pv f k l q e d))) w) : wpList Tryd.prog ops Q (o :: rest) a w :=
  wpList_plain hgd fun _ hK => wp_page x y z ho f k l q e d hx hy hz (hK _ _ h)

theorem fr_dec_shape (s : ByteArray) (w : World) (hm : s.size ≤ 400) (h : ¬ ShapeOk s.size) : Calls Tryd.prog 12 #[.string s] w (FrDec s w) := by
  unfold FrDec
  rw [pageV_shape h]
  have HD : Hid (decide (ShapeOk s.size) = false) := decide_eq_false h
  clear h
  go_enter Tryd.func12, Tryd.ntmps12
  go_wp2_with fail
  refine (fr_chunks s.size _ (by omega)).mono ?_
  rintro r w1 ⟨rfl, rfl⟩
  rw [HD.out]
  go_wp2_with (refine wpList_store_row rfl 30 (.tmp 2) (.tmp 12) rfl w.heap.size P4 rfl rfl 30 P0 (Blk.new w P0 30) size_page rfl (pv_one _ _ _ _ _ _) ?_)
  exact bodyPost_ret (results_cell_row (P := Tryd.prog) rfl _ _ w.heap.size 30 P4 (0, 0) _ rfl ((Blk.new w P0 30).put P4) Tryd.underlying30 rfl size_page) rfl ⟨rfl, below_put (Nat.le_refl _) _ ((Below.refl _ _).alloc (Nat.le_refl _) _)⟩

set_option maxHeartbeats 1000000 in
theorem fr_dec_on (s : ByteArray) (w : World) (hm : s.size ≤ 400) (h : ShapeOk s.size) (hT : Tabs w) : Calls Tryd.prog 12 #[.string s] w (FrDec s w) := by
  unfold FrDec
  have HD : Hid (decide (ShapeOk s.size) = true) := decide_eq_true h
  have hd9 : 9 * (s.size / 9) = s.size := by have := h.1; omega
  have hc4 : 4 ≤ s.size / 9 := by have := h.2.1; omega
  have hc35 : s.size / 9 ≤ 35 := by have := h.2.2; omega
  have HH := Lib.hid h
  have HT := Lib.hid hT
  clear hT h
  cases hb : blankTo s (s.size / 9) with
  | true =>
    have HPV : Hid (pageV s = P1) := pageV_blank HH.out hb
    have HB := Lib.hid hb
    clear hb
    go_enter Tryd.func12, Tryd.ntmps12
    go_wp2_with fail
    refine (fr_chunks s.size _ (by omega)).mono ?_
    rintro r w1 ⟨rfl, rfl⟩
    rw [HD.out]
    go_wp2_with fail
    refine (fr_isBlank s _ hm hd9).mono ?_
    rintro r w2 ⟨rfl, hb2⟩
    rw [HB.out]
    have HB2 : Hid (Below w.heap.size w w2) := ((Below.refl _ _).alloc (Nat.le_refl _) _).trans (hb2.mono (by simp))
    have HK2 := Lib.hid ((Blk.new w P0 30).after hb2)
    clear hb2
    go_wp2_with (refine wpList_store_row rfl 30 (.tmp 2) (.tmp 15) rfl w.heap.size P1 rfl rfl 30 P0 HK2.out size_page rfl (pv_one _ _ _ _ _ _) ?_)
    exact bodyPost_ret (results_cell_row (P := Tryd.prog) rfl _ _ w.heap.size 30 P1 (0, 0) _ rfl (HK2.out.put P1) Tryd.underlying30 rfl size_page) rfl ⟨by rw [HPV.out], below_put (Nat.le_refl _) _ HB2.out⟩
  | false =>
    have HBad := Lib.hid (@pageV_bad s HH.out hb)
    have HNone := Lib.hid (@pageV_none s HH.out hb)
    have HPage := Lib.hid (@pageV_page s HH.out hb)
    have HB := Lib.hid hb
    clear hb
    go_enter Tryd.func12, Tryd.ntmps12
    go_wp2_with fail
    refine (fr_chunks s.size _ (by omega)).mono ?_
    rintro r w1 ⟨rfl, rfl⟩
    rw [HD.out]
    go_wp2_with fail
    refine (fr_isBlank s _ hm hd9).mono ?_
    rintro r w2 ⟨rfl, hb2⟩
    rw [HB.out]
    have HB2 : Hid (Below w.heap.size w w2) := ((Below.refl _ _).alloc (Nat.le_refl _) _).trans (hb2.mono (by simp))
    have HK2 := Lib.hid ((Blk.new w P0 30).after hb2)
    clear hb2
    go_wp2_with fail
    refine (fr_unpacked s _ hm hd9 (HT.out.after HB2.out)).mono ?_
    rintro r w3 ⟨⟨t, v, rfl, hbad, hgood⟩, hb3⟩
    have HB3 : Hid (Below w.heap.size w w3) := HB2.out.trans (hb3.mono HB2.out.size)
    have HK3 := Lib.hid (HK2.out.after hb3)
    clear hb3
    cases hbt : badTo s (s.size / 9) with
    | true =>
      obtain rfl := hbad hbt
      have HPV : Hid (pageV s = P4) := HBad.out hbt
      clear hbad hgood hbt
      go_wp2_with (refine wpList_store_row rfl 30 (.tmp 2) (.tmp 23) rfl w.heap.size P4 rfl rfl 30 P0 HK3.out size_page rfl (pv_one _ _ _ _ _ _) ?_)
      exact bodyPost_ret (results_cell_row (P := Tryd.prog) rfl _ _ w.heap.size 30 P4 (0, 0) _ rfl (HK3.out.put P4) Tryd.underlying30 rfl size_page) rfl ⟨by rw [HPV.out], below_put (Nat.le_refl _) _ HB3.out⟩
    | false =>
      obtain ⟨ht, hv⟩ := hgood hbt
      have hsz := heldTo_size s (s.size / 9) (by omega) hbt
      rw [← ht] at hsz
      have HPN : Hid (¬ HoldsPage t → pageV s = P4) := fun hn => HNone.out hbt (by rw [← ht]; exact hn)
      have HPO : Hid (HoldsPage t → pageV s = pageOf s t (s.size / 9)) := fun hn => by
        have h := HPage.out hbt (by rw [← ht]; exact hn)
        rwa [← ht] at h
      have hv4 : v ≠ 4 := by rw [hv]; unfold toldTo; split <;> decide
      have HV := Lib.hid hv
      clear hbad hgood hbt ht hv
      go_wp2_with fail
      refine (fr_opened t _ (by omega) (by omega) (HT.out.after HB3.out)).mono ?_
      rintro r w4 ⟨⟨k', l', q', e', dt, ok, rfl, hok, hpg⟩, hb4⟩
      have HB4 : Hid (Below w.heap.size w w4) := HB3.out.trans (hb4.mono HB3.out.size)
      have HK4 := Lib.hid ((HK3.out.after hb4).alloc (.cells (ta 0 0 0 0) 23))
      have hne : w4.heap.size ≠ w.heap.size := by have h := (HK3.out.after hb4).lt; omega
      have HNE := Lib.hid hne
      clear hb4 hne
      by_cases hh : HoldsPage t
      · obtain rfl : ok = true := hok.trans (decide_eq_true hh)
        obtain ⟨hcs, hdt⟩ := hpg hh
        have HPV : Hid (pageV s = pv v k' l' q' e' dt) := by
          show pageV s = pv v k' l' q' e' dt
          rw [HPO.out hh, HV.out, hdt]
          unfold pageOf
          obtain ⟨h1, h2, h3, h4⟩ := ta_inj hcs
          rw [h1, h2, h3, h4]
        clear hok hpg hh hcs hdt
        have HT5 := Lib.hid ((Blk.new w4 (ta 0 0 0 0) 23).put (ta k' l' q' e'))
        have HP5 := Lib.hid (HK4.out.put_other HNE.out (ta k' l' q' e'))
        go_wp2_with (first
          | (refine wpList_page rfl (.tmp 33) (.tmp 34) (.tmp 35) rfl v k' l' q' e' dt rfl rfl rfl ?_)
          | (refine wpList_load_row rfl 23 (.tmp 5) rfl w4.heap.size rfl 23 (ta k' l' q' e') (0, 0) _ HT5.out Tryd.underlying23 rfl size_tag ?_)
          | (refine wpList_store_row rfl 23 (.tmp 5) (.tmp 27) rfl w4.heap.size (ta k' l' q' e') rfl rfl 23 (ta 0 0 0 0) (Blk.new w4 (ta 0 0 0 0) 23) size_tag rfl (ta_one _ _ _ _) ?_)
          | (refine wpList_store_row rfl 30 (.tmp 2) (.tmp 36) rfl w.heap.size (pv v k' l' q' e' dt) rfl rfl 30 P0 HP5.out size_page rfl (pv_one _ _ _ _ _ _) ?_))
        exact bodyPost_ret (results_cell_row (P := Tryd.prog) rfl _ _ w.heap.size 30 (pv v k' l' q' e' dt) (0, 0) _ rfl (HP5.out.put _) Tryd.underlying30 rfl size_page) rfl ⟨by rw [HPV.out], below_put (Nat.le_refl _) _ (below_put HB4.out.size _ (HB4.out.alloc HB4.out.size _))⟩
      · obtain rfl : ok = false := hok.trans (decide_eq_false hh)
        have HPV : Hid (pageV s = P4) := HPN.out hh
        clear hok hpg hh
        go_wp2_with (first
          | (refine wpList_store_row rfl 23 (.tmp 5) (.tmp 27) rfl w4.heap.size (ta k' l' q' e') rfl rfl 23 (ta 0 0 0 0) (Blk.new w4 (ta 0 0 0 0) 23) size_tag rfl (ta_one _ _ _ _) ?_)
          | (refine wpList_store_row rfl 30 (.tmp 2) (.tmp 32) rfl w.heap.size P4 rfl rfl 30 P0 (HK4.out.put_other HNE.out _) size_page rfl (pv_one _ _ _ _ _ _) ?_))
        exact bodyPost_ret (results_cell_row (P := Tryd.prog) rfl _ _ w.heap.size 30 P4 (0, 0) _ rfl ((HK4.out.put_other HNE.out _).put P4) Tryd.underlying30 rfl size_page) rfl ⟨by rw [HPV.out], below_put (Nat.le_refl _) _ (below_put HB4.out.size _ (HB4.out.alloc HB4.out.size _))⟩

theorem fr_dec (s : ByteArray) (w : World) (hm : s.size ≤ 400) (hT : Tabs w) : Calls Tryd.prog 12 #[.string s] w (FrDec s w) := by
  by_cases h : ShapeOk s.size
  · exact fr_dec_on s w hm h hT
  · exact fr_dec_shape s w hm h

end Go.Proofs.YtlacmfacigfioaaDoor
