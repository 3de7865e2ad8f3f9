/- Package sheet, walked: take. -/
import Derived.Test.YtklbmlnghindjaaDoorShC1
import Derived.Test.YtklbmlnghindjaaDoorShR2
import Derived.Laws.MakeOwn
namespace Go.Proofs.YtklbmlnghindjaaDoor
set_option maxRecDepth 100000
open Go.RowKit

/-- cells of records, one of them set -/
theorem flatX_set : ∀ (l : List Rc) (i : Nat) (x : Rc), i < l.length → (((flatX l).set (i * 3) (.int .i64 x.k)).set (i * 3 + 1) (.int .i64 x.a)).set (i * 3 + 2) (.int .i64 x.b) = flatX (l.set i x)
  | [], i, x, h => absurd h (Nat.not_lt_zero i)
  | y :: r, 0, x, _ => rfl
  | y :: r, i + 1, x, h => by
    have ih := flatX_set r i x (by simpa using h)
    have e : flatX (y :: r) = .int .i64 y.k :: .int .i64 y.a :: .int .i64 y.b :: flatX r := rfl
    have e2 : flatX ((y :: r).set (i + 1) x) = .int .i64 y.k :: .int .i64 y.a :: .int .i64 y.b :: flatX (r.set i x) := rfl
    rw [e, e2, ← ih, show (i + 1) * 3 = i * 3 + 3 by omega]
    rfl
theorem flatX_replicate (n : Nat) : ∀ u ∈ flatX (List.replicate n ⟨0, 0, 0⟩), u = .int .i64 0 := by
  intro u hu
  unfold flatX at hu
  rw [List.mem_flatMap] at hu
  obtain ⟨x, hx, h⟩ := hu
  rw [List.eq_of_mem_replicate hx] at h
  simp [Rc.cells] at h
  exact h
theorem made_recs (n : Nat) : madeCells (ra 0 0 0) (n * 3) = (flatX (List.replicate n ⟨0, 0, 0⟩)).toArray := by
  apply Array.ext
  · rw [size_madeCells, List.size_toArray, flatX_len, List.length_replicate]
  · intro j h1 h2
    have hR := flatX_replicate n ((flatX (List.replicate n ⟨0, 0, 0⟩)).toArray[j]) (by simp)
    rw [hR]
    simp only [madeCells, Array.getElem_map, Array.getElem_range]
    have h3 : ∀ k, k < 3 → (ra 0 0 0)[k]! = .int .i64 0 := fun k hk => by
      match k, hk with
      | 0, _ => rfl
      | 1, _ => rfl
      | 2, _ => rfl
    exact h3 _ (Nat.mod_lt _ (by decide))
theorem run_make_recs (n : Nat) (hn : n ≤ 1000) (w : World) : Sem.run Tryd.prog (Instr.makeSlice 24 (.int .i64 (n : Int)) (.int .i64 (n : Int))) w = .ok (.slice (some ⟨w.heap.size, 0, none⟩) n n) (w.alloc (.cells (flatX (List.replicate n ⟨0, 0, 0⟩)).toArray 32)) := by
  obtain ⟨i0, hi, hz0, hz1, hz2⟩ := info_partsX infoRec
  have h := run_make (P := Tryd.prog) w 24 32 i0 _ Tryd.underlying24 hi hz0 .i64 .i64 (n : Int) (n : Int) (by omega) (Int.le_refl _) (by rw [hz2]; omega) (by omega)
  rw [hz1] at h
  simp only [Int.toNat_natCast, Value.cells, made_recs] at h
  exact h
/-- a block of records, whole, one of them stored -/
theorem blk_setX {w : World} {g : Nat} {l : List Rc} {t : TypeId} (h : Blk w g (flatX l).toArray t) (i : Nat) (x : Rc) (hi : i < l.length) : Blk (w.setCells g (i * 3) x.cells) g (flatX (l.set i x)).toArray t := by
  have e : w.setCells g (i * 3) x.cells = ((w.setCell ⟨g, i * 3, none⟩ (.int .i64 x.k)).setCell ⟨g, i * 3 + 1, none⟩ (.int .i64 x.a)).setCell ⟨g, i * 3 + 2, none⟩ (.int .i64 x.b) := rfl
  rw [e]
  have h1 := h.set (i * 3) (.int .i64 x.k) rfl
  have h2 := h1.set (i * 3 + 1) (.int .i64 x.a) rfl
  refine h2.set (i * 3 + 2) (.int .i64 x.b) ?_
  simp only [List.setIfInBounds_toArray]
  rw [flatX_set l i x hi]
theorem blk_thereX {w : World} {g : Nat} {l : List Rc} {t : TypeId} (h : Blk w g (flatX l).toArray t) (i : Nat) (hi : i < l.length) : w.there g (i * 3) 3 := by
  intro j hj
  refine ⟨?_, h.free _⟩
  rw [h.cell, List.getElem?_toArray, flatX_get l i j hi hj]
  have : j < (l[i].cells).length := hj
  rw [List.getElem?_eq_getElem this]; rfl
theorem blk_ownX {w : World} {g B : Nat} {l : List Rc} (h : Blk w g (flatX l).toArray 32) (hB : B ≤ g) (hl : l.length ≤ 1000) : w.ownsRow B 32 3 (.slice (some ⟨g, 0, none⟩) l.length l.length) l.length (flatX l) :=
  ⟨flatX_len l, .inr ⟨g, l.length, (flatX l).toArray, rfl, hB, h, Nat.le_refl _, by unfold maxLen; omega, by rw [List.size_toArray, flatX_len], by rw [List.toList_toArray]; exact List.take_of_length_le (Nat.le_of_eq (flatX_len l))⟩⟩
theorem below_setCellsX {B : Nat} {a : World} (g : Nat) (hB : B ≤ g) : ∀ (vs : List Value) (o : Nat) (w : World), Below B a w → Below B a (w.setCells g o vs)
  | [], _, _, h => h
  | v :: r, o, w, h => by
    rw [World.setCells]
    refine below_setCellsX (a := a) g hB r (o + 1) _ ?_
    obtain ⟨h1, h2, h3, h4, h5⟩ := h
    exact ⟨h1, h2, h3, by rw [World.size_setCell]; exact h4, fun k hk => (Below.heap_setCell _ _ _ _ (by show k ≠ g; omega)).trans (h5 k hk)⟩

/-- the text of the i-th record of several, one behind another -/
def partT (s : ByteArray) (i : Nat) : ByteArray := s.extract (9 * i) (9 * i + 9)
def recP (s : ByteArray) (i : Nat) : Rc := ⟨kR (partT s i), aR (partT s i), bR (partT s i)⟩
def fillX (s : ByteArray) (n i : Nat) : List Rc := (List.range n).map fun j => if j < i then recP s j else ⟨0, 0, 0⟩
theorem fillX_len (s : ByteArray) (n i : Nat) : (fillX s n i).length = n := by simp [fillX]
theorem fillX_zero (s : ByteArray) (n : Nat) : fillX s n 0 = List.replicate n ⟨0, 0, 0⟩ := by
  apply List.ext_getElem
  · simp [fillX]
  · intro j h1 h2; simp [fillX]
theorem fillX_all (s : ByteArray) (n : Nat) : fillX s n n = (List.range n).map (recP s) := by
  apply List.ext_getElem
  · simp [fillX]
  · intro j h1 h2
    simp [fillX] at h1 ⊢
    intro h; omega
theorem fillX_set (s : ByteArray) (n i : Nat) (_ : i < n) : (fillX s n i).set i (recP s i) = fillX s n (i + 1) := by
  apply List.ext_getElem
  · simp [fillX]
  · intro j h1 h2
    simp only [fillX, List.getElem_set, List.getElem_map, List.getElem_range]
    by_cases h : i = j
    · subst h; simp
    · simp only [h, if_false]
      by_cases h3 : j < i
      · rw [if_pos h3, if_pos (by omega)]
      · rw [if_neg h3, if_neg (by omega)]

/-- what take answers -/
def TakeLT (s : ByteArray) (n : Nat) (w : World) (e : Ending) (w' : World) : Prop :=
  ((∀ i, i < n → OkR (partT s i)) → ∃ v, e = .returned (.tuple #[v, .int .i64 0]) ∧ w'.ownsRow w.heap.size 32 3 v n (flatX ((List.range n).map (recP s))))
  ∧ (¬ (∀ i, i < n → OkR (partT s i)) → e = .returned (.tuple #[.slice none 0 0, .int .i64 3])) ∧ Below w.heap.size w w'

set_option maxHeartbeats 2000000 in
theorem sh_take (s : ByteArray) (n : Nat) (hn : n ≤ 28) (hs : s.size = 9 * n) (w : World) : Calls Tryd.prog 16 #[.string s] w (TakeLT s n w) := by
  have hq : (s.size : Int) / 9 = (n : Int) := by omega
  have hmk := run_make_recs n (by omega)
  have HS := Lib.hid hs
  obtain ⟨z, hz⟩ : ∃ z, s.size = z := ⟨_, rfl⟩
  have HZ := Lib.hid hz
  go_enter Tryd.func16, Tryd.ntmps16
  go_wp2_with fail
  obtain ⟨g, hg⟩ : ∃ g, w.heap.size = g := ⟨_, rfl⟩
  have hb0 : Blk (w.alloc (.cells (flatX (List.replicate n ⟨0, 0, 0⟩)).toArray 32)) g (flatX (fillX s n 0)).toArray 32 := by rw [fillX_zero, ← hg]; exact Blk.new _ _ _
  have hb1 : Below g w (w.alloc (.cells (flatX (List.replicate n ⟨0, 0, 0⟩)).toArray 32)) := by rw [← hg]; exact (Below.refl _ _).alloc (Nat.le_refl _) _
  have HB0 := Lib.hid hb0
  have HB1 := Lib.hid hb1
  have HG := Lib.hid hg
  rw [hg]
  clear hb0 hb1 hg hmk
  go_loopw [14] (fun iv wr => ∃ i : Nat, i ≤ n ∧ iv = .int .i64 i ∧ Hid (∀ j, j < i → OkR (partT s j)) ∧ Hid (Blk wr g (flatX (fillX s n i)).toArray 32) ∧ Hid (Below g w wr)) (fun iv _ => n - (intOf iv).toNat)
  case atStart => exact ⟨0, Nat.zero_le _, rfl, fun j hj => absurd hj (Nat.not_lt_zero _), HB0.out, HB1.out⟩
  case round =>
    obtain ⟨i, hi, rfl, HO, HBK, HBL⟩ := hrel
    by_cases hlt : i < n
    · have hltz : (i : Int) < (n : Int) := by omega
      have hx1 : ((i : Int) * 9).toNat = 9 * i := by omega
      have hx2 : (((i : Int) + 1) * 9).toNat = 9 * i + 9 := by omega
      have hsz : ((i : Int) + 1) * 9 ≤ (s.size : Int) := by have := HS.out; omega
      have hex : s.extract (9 * i) (9 * i + 9) = partT s i := rfl
      obtain ⟨t, ht⟩ : ∃ t, partT s i = t := ⟨_, rfl⟩
      have hts : t.size = 9 := by rw [← ht]; unfold partT; rw [ByteArray.size_extract]; have := HS.out; omega
      rw [ht] at hex
      have HT := Lib.hid ht
      have HTS := Lib.hid hts
      clear ht hts
      go_wp2_with fail
      refine (rec_take t wr (by rw [HTS.out]; decide)).mono ?_
      rintro e w2 ⟨rfl, hb2⟩
      by_cases ho : OkR t
      · have hA : takeA t = ra (kR t) (aR t) (bR t) := if_pos ho
        have hE : takeE t = 0 := if_pos ho
        rw [hA, hE]
        have HX : Hid (recP s i = ⟨kR t, aR t, bR t⟩) := by show recP s i = _; unfold recP; rw [HT.out]
        obtain ⟨kk, hkk⟩ : ∃ x, kR t = x := ⟨_, rfl⟩
        obtain ⟨aa, haa⟩ : ∃ x, aR t = x := ⟨_, rfl⟩
        obtain ⟨bb, hbb⟩ : ∃ x, bR t = x := ⟨_, rfl⟩
        rw [hkk, haa, hbb] at HX ⊢
        have HOK : Hid (∀ j, j < i + 1 → OkR (partT s j)) := fun j hj => by
          rcases Nat.lt_or_ge j i with h3 | h3
          · exact HO.out j h3
          · obtain rfl : j = i := by omega
            rw [HT.out]; exact ho
        obtain ⟨w3, hw3⟩ : ∃ w3, (w2.alloc (.cells (ra 0 0 0) 32)).setRow w2.heap.size (ra kk aa bb) = w3 := ⟨_, rfl⟩
        have hgw : g < w2.heap.size := Nat.lt_of_lt_of_le HBK.out.lt hb2.size
        have hk3 : Blk w3 w2.heap.size (ra kk aa bb) 32 := by rw [← hw3]; exact (Blk.new _ _ _).put _
        have hg3 : Blk w3 g (flatX (fillX s n i)).toArray 32 := by rw [← hw3]; exact ((HBK.out.after hb2).alloc _).put_other (by omega) _
        have hb3 : Below g w w3 := by rw [← hw3]; exact below_put (by omega) _ (((HBL.out.trans (hb2.mono (Nat.le_of_lt HBK.out.lt)))).alloc (by omega) _)
        have HTH : Hid (w3.there g (i * 3) (ra kk aa bb).size) := blk_thereX hg3 i (by rw [fillX_len]; exact hlt)
        have HNB : Hid (Blk (w3.setCells g (i * 3) [.int .i64 kk, .int .i64 aa, .int .i64 bb]) g (flatX (fillX s n (i + 1))).toArray 32) := by
          have h5 := blk_setX hg3 i ⟨kk, aa, bb⟩ (by rw [fillX_len]; exact hlt)
          rw [show (⟨kk, aa, bb⟩ : Rc) = recP s i from HX.out.symm, fillX_set s n i hlt, HX.out] at h5
          exact h5
        have HNL : Hid (Below g w (w3.setCells g (i * 3) [.int .i64 kk, .int .i64 aa, .int .i64 bb])) := below_setCellsX g (Nat.le_refl _) _ _ _ hb3
        have K3 := Lib.hid hk3
        have HW3 := Lib.hid hw3
        clear hA hE hkk haa hbb ho HT HTS HO HBK HBL hb2 hgw hk3 hg3 hb3 hw3 HX hex
        go_wp2_with (first
          | (refine wpList_store_row rfl 32 (.tmp 6) (.tmp 26) rfl w2.heap.size (ra kk aa bb) rfl rfl 32 (ra 0 0 0) (Blk.new w2 (ra 0 0 0) 32) size_rec rfl (ra_one _ _ _) ?_; change wpList _ _ _ _ _ ((w2.alloc (.cells (ra 0 0 0) 32)).setRow w2.heap.size (ra kk aa bb)); rw [HW3.out])
          | (refine wpList_load_row rfl 32 (.tmp 6) rfl w2.heap.size rfl 32 #[.int .i64 kk, .int .i64 aa, .int .i64 bb] (0, 0) _ K3.out Tryd.underlying32 rfl size_rec ?_)
          | (refine wpList_store_mid rfl 32 (.tmp 34) (.tmp 33) rfl g (i * 3) (ra kk aa bb) rfl rfl HTH.out size_rec (ra_one _ _ _) ?_))
        go_roundw
        case rel => exact ⟨i + 1, by omega, by go_num, HOK, HNB, HNL⟩
        case measure => simp [intOf]; omega
      · have hA : takeA t = ra 0 0 0 := if_neg ho
        have hE : takeE t = 3 := if_neg ho
        rw [hA, hE]
        have hno : ¬ (∀ j, j < n → OkR (partT s j)) := fun hp => ho (by rw [← HT.out]; exact hp i hlt)
        have hbl2 : Below g w w2 := HBL.out.trans (hb2.mono (Nat.le_of_lt HBK.out.lt))
        have hgw : g ≤ w2.heap.size := Nat.le_trans (Nat.le_of_lt HBK.out.lt) hb2.size
        have hbl3 : Below g w ((w2.alloc (.cells (ra 0 0 0) 32)).setRow w2.heap.size (ra 0 0 0)) := below_put hgw _ (hbl2.alloc hgw _)
        rw [← HG.out] at hbl3
        have HBL3 := Lib.hid hbl3
        have HNO := Lib.hid hno
        clear hA hE hno hbl2 hbl3 ho HT HTS HO HBK HBL hb2 hgw hex
        go_wp2_with (refine wpList_store_row rfl 32 (.tmp 6) (.tmp 26) rfl w2.heap.size (ra 0 0 0) rfl rfl 32 (ra 0 0 0) (Blk.new w2 (ra 0 0 0) 32) size_rec rfl (ra_one _ _ _) ?_)
        go_ret2
        exact ⟨fun h => absurd h HNO.out, fun _ => rfl, HBL3.out⟩
    · obtain rfl : i = n := by omega
      have hltz : ¬ (i : Int) < (i : Int) := by omega
      have hown := blk_ownX (B := w.heap.size) HBK.out (Nat.le_of_eq HG.out) (by rw [fillX_len]; omega)
      rw [fillX_len, fillX_all] at hown
      have hbl := HBL.out
      rw [← HG.out] at hbl
      have HOWN := Lib.hid hown
      have HBL2 := Lib.hid hbl
      clear hown hbl
      go_wp2_with fail
      go_ret2
      exact ⟨fun _ => ⟨_, rfl, HOWN.out⟩, fun h => absurd HO.out h, HBL2.out⟩

end Go.Proofs.YtklbmlnghindjaaDoor
