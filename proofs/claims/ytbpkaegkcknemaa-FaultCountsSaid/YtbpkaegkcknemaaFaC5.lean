/- Package fault, walked: slices.DeleteFunc over Without's closure; Without. -/
import Derived.Test.YtbpkaegkcknemaaFaC4
import Derived.Test.YtbpkaegkcknemaaFaQ
namespace Go.Proofs.Ytbpkaegkcknemaa
set_option maxRecDepth 100000
open Go.RowKit Go.Shelf Go.Proofs

/-- all but block g is as it was -/
def OG (g : Nat) (w w' : World) : Prop := w.grownBy w' (some g)
theorem OG.refl (g : Nat) (w : World) : OG g w w := ⟨rfl, rfl, rfl, Nat.le_refl _, fun _ _ _ => rfl⟩
theorem OG.trans {g : Nat} {a b c : World} (h : OG g a b) (k : OG g b c) : OG g a c :=
  ⟨k.os.trans h.os, k.tape.trans h.tape, k.output.trans h.output, Nat.le_trans h.size k.size, fun t ht hn => (k.block t (Nat.lt_of_lt_of_le ht h.size) hn).trans (h.block t ht hn)⟩
theorem OG.of_below {g : Nat} {w w' : World} (h : Below w.heap.size w w') : OG g w w' := ⟨h.os, h.tape, h.output, h.size, fun t ht _ => h.block t ht⟩
theorem OG.cells {g : Nat} (w : World) (o : Nat) (vs : List Value) : OG g w (w.setCells g o vs) := by
  have hp : ∀ (vs : List Value) (o : Nat) (w : World), (w.setCells g o vs).os = w.os ∧ (w.setCells g o vs).tape = w.tape ∧ (w.setCells g o vs).output = w.output := by
    intro vs
    induction vs with
    | nil => intro o w; exact ⟨rfl, rfl, rfl⟩
    | cons v r ih => intro o w; rw [World.setCells]; exact ih (o + 1) _
  obtain ⟨h1, h2, h3⟩ := hp vs o w
  exact ⟨h1, h2, h3, by rw [size_setCellsF]; exact Nat.le_refl _, fun t _ hn => setCells_neF g t (fun e => hn (by rw [e])) vs o w⟩
theorem OG.below {g B : Nat} {w0 w w' : World} (h0 : Below B w0 w) (h : OG g w w') (hB : B ≤ w0.heap.size) (hg : B ≤ g) : Below B w0 w' :=
  ⟨h.os.trans h0.os, h.tape.trans h0.tape, h.output.trans h0.output, Nat.le_trans h0.size h.size, fun t ht => (h.block t (Nat.lt_of_lt_of_le (Nat.lt_of_lt_of_le ht hB) (Nat.le_trans (Nat.le_of_eq rfl) (by have := h0.size; omega))) (fun e => by cases e; omega)).trans (h0.block t ht)⟩

def zerosF (n : Nat) : List Value := (Builtin.zeroCells (encF f0).toArray n).toList
theorem zerosF_len (n : Nat) : (zerosF n).length = n * 4 := by unfold zerosF Builtin.zeroCells; simp [encF]
theorem zerosF_one (n : Nat) : ∀ v ∈ zerosF n, v.oneCell' = true := by
  intro v hv
  unfold zerosF Builtin.zeroCells at hv
  simp [encF] at hv
  obtain ⟨a, _, rfl⟩ := hv
  have h4 : a % 4 < 4 := Nat.mod_lt _ (by decide)
  generalize a % 4 = r at h4
  match r, h4 with
  | 0, _ => rfl
  | 1, _ => rfl
  | 2, _ => rfl
  | 3, _ => rfl
theorem run_clear_f (w : World) (ty : TypeId) (g o n c : Nat) (hn : 0 < n) (ht : w.there g o (n * 4)) :
    Sem.run Try.prog (Builtin.clear_ #[22] ty #[.slice (some ⟨g, o, none⟩) n c]) w = .ok (.tuple #[]) (w.setCells g o (zerosF n)) := by
  have hst := run_storeCells_cells (P := Try.prog) g o (zerosF n) 0 w (by intro j hj; rw [zerosF_len] at hj; exact (ht j hj).1) (by intro j hj; rw [zerosF_len] at hj; exact (ht j hj).2) (zerosF_one n)
  simp only [Nat.add_zero] at hst
  obtain ⟨m, rfl⟩ : ∃ m, n = m + 1 := ⟨n - 1, by omega⟩
  have hz : ∀ w, Sem.run Try.prog (zeroValue 26) w = .ok (.agg (encF f0).toArray) w := Try.zeroValue26
  have hcs : (Value.agg (encF f0).toArray).cells = (encF f0).toArray := rfl
  unfold zerosF at hst
  simp [Builtin.clear_, run_underlying Try.underlying22, hz, hcs, hst]
  rfl

/-- those of other kinds -/
def others (k : Int) (l : List Fa) : List Fa := l.filter fun x => !(x.2.1 == k)
theorem others_le (k : Int) (l : List Fa) : (others k l).length ≤ l.length := List.length_filter_le _ _
/-- what the row holds when j have been looked at and i of them kept -/
def Kept2 (k : Int) (l dl : List Fa) (i j : Nat) : Prop := dl.length = l.length ∧ dl.take i = others k (l.take j) ∧ dl.drop j = l.drop j
theorem Kept2.at {k : Int} {l dl : List Fa} {i j : Nat} (h : Kept2 k l dl i j) (hj : j < l.length) : dl[j]'(by rw [h.1]; exact hj) = l[j] := by
  have h2 := congrArg (fun t : List Fa => t[0]?) h.2.2
  simp only [List.getElem?_drop, Nat.add_zero] at h2
  rw [List.getElem?_eq_getElem hj, List.getElem?_eq_getElem (by rw [h.1]; exact hj)] at h2
  exact Option.some.inj h2
theorem drop_more {l l' : List Fa} {j : Nat} (h : l.drop j = l'.drop j) : l.drop (j + 1) = l'.drop (j + 1) := by
  rw [← List.drop_drop, ← List.drop_drop, h]
theorem Kept2.skip {k : Int} {l dl : List Fa} {i j : Nat} (h : Kept2 k l dl i j) (hj : j < l.length) (hx : (l[j].2.1 == k) = true) : Kept2 k l dl i (j + 1) := by
  refine ⟨h.1, ?_, drop_more h.2.2⟩
  rw [h.2.1, List.take_add_one, List.getElem?_eq_getElem hj]
  unfold others
  rw [Option.toList_some, List.filter_append, List.filter_cons_of_neg (by simp [hx])]
  simp
theorem Kept2.keep {k : Int} {l dl : List Fa} {i j : Nat} (h : Kept2 k l dl i j) (hij : i < j) (hj : j < l.length) (hx : (l[j].2.1 == k) = false) : Kept2 k l (dl.set i l[j]) (i + 1) (j + 1) := by
  refine ⟨by rw [List.length_set]; exact h.1, ?_, ?_⟩
  · rw [List.take_add_one, List.getElem?_set_self (by rw [h.1]; omega), List.take_set_of_le (Nat.le_refl i), h.2.1, List.take_add_one, List.getElem?_eq_getElem hj]
    unfold others
    rw [Option.toList_some, List.filter_append, List.filter_cons_of_pos (by simp [hx])]
    simp
  · rw [List.drop_set_of_lt (by omega)]
    exact drop_more h.2.2
theorem Kept2.start {k : Int} {l : List Fa} {j : Nat} (hj : j < l.length) (hx : (l[j].2.1 == k) = true) (hm : ∀ i (hi : i < l.length), i < j → (l[i].2.1 == k) = false) : Kept2 k l l j (j + 1) := by
  have h0 : Kept2 k l l j j := ⟨rfl, by
    unfold others
    rw [List.filter_eq_self.2]
    intro x hx
    obtain ⟨t, ht, ht2, rfl⟩ := mem_take hx
    simp [hm t ht ht2], rfl⟩
  exact h0.skip hj hx

theorem fa_predW (k : Int) (B : Nat) (w : World) (hB : B < w.heap.size) (hc : w.cell? ⟨B, 0, none⟩ = some (.int .i64 k)) :
    PredBelow Try.prog 33 #[.pointer (some ⟨B, 0, none⟩)] (fun x => .agg (encF x).toArray) (fun x => x.2.1 == k) w := fun W x hb =>
  (fa_other k B x W (Nat.lt_of_lt_of_le hB hb.size) ((hb.cell (p := ⟨B, 0, none⟩) hB).trans hc)).mono fun _ _ ⟨he, h⟩ => ⟨he, hb.trans (h.mono hb.size)⟩

set_option maxHeartbeats 4000000 in
theorem fa_delete (k : Int) (B g cap : Nat) (l : List Fa) (hl : l.length ≤ 1000000) (hcap : l.length ≤ cap) (w : World) (hB : B < w.heap.size) (hc : w.cell? ⟨B, 0, none⟩ = some (.int .i64 k)) (hBg : B ≠ g) (hr : FRow w g l) :
    Calls Try.prog 32 #[.slice (some ⟨g, 0, none⟩) l.length cap, .func (.func 33) #[] #[.pointer (some ⟨B, 0, none⟩)]] w fun e w' =>
      e = .returned (.slice (some ⟨g, 0, none⟩) (others k l).length cap) ∧ FsAt w' (some ⟨g, 0, none⟩) (others k l) ∧ OG g w w' := by
  have eg : ∀ args w, (callFunc 33 args).run Try.prog w = .ok (.enter 33 args) w := enters_of Try.func33 (by kernel_rfl) rfl
  have hidx := fa_index (fun x => x.2.1 == k) 33 #[.pointer (some ⟨B, 0, none⟩)] eg (some ⟨g, 0, none⟩) cap l (by unfold maxLen; omega) w hr.fs (fa_predW k B w hB hc)
  obtain ⟨n, hn⟩ : ∃ n, l.length = n := ⟨_, rfl⟩
  have HN := Lib.hid hn
  have HR := Lib.hid hr
  have HC : Hid (∀ w', OG g w w' → B < w'.heap.size ∧ w'.cell? ⟨B, 0, none⟩ = some (.int .i64 k)) := fun w' h => ⟨Nat.lt_of_lt_of_le hB h.size, h.cell hc (fun e => hBg (Option.some.inj e))⟩
  rw [hn] at hl hcap
  rcases idx_find (fun x => x.2.1 == k) l with ⟨hno, hi⟩ | ⟨j0, hj0, hfd, hp0, hi⟩
  · have hall : others k l = l := by
      unfold others
      rw [List.filter_eq_self]
      intro x hx
      have := List.find?_eq_none.1 hno x hx
      simpa using this
    rw [hi, hn] at hidx
    rw [hall, hn]
    clear hno hi hall hr hc hn eg
    go_enter Try.func32, Try.ntmps32
    go_wp2_with fail
    refine hidx.mono ?_
    rintro r w1 ⟨rfl, hb1⟩
    have HB1 := Lib.hid hb1
    clear hb1 hidx
    go_wp2_with fail
    go_ret
    exact ⟨rfl, (HR.out.after HB1.out).fs, OG.of_below HB1.out⟩
  · have hst : Kept2 k l l j0 (j0 + 1) := by
      refine Kept2.start hj0 hp0 fun i hii hij => ?_
      obtain ⟨_, j, hj, hje, hm⟩ := List.find?_eq_some_iff_getElem.1 hfd
      have hjj : j = j0 := by
        rcases Nat.lt_trichotomy j j0 with h | h | h
        · exfalso
          have h1 := Lib.idxBy_hit (fun _ y => y.2.1 == k) l l.length j default hj (Nat.le_refl _) (by rw [getElem!_pos l j hj, hje]; exact hp0) (fun t ht => by rw [getElem!_pos l t (by omega)]; simpa using hm t ht)
          rw [hi] at h1
          have h2 : (j0 : Int) = (j : Int) := h1
          omega
        · exact h
        · exfalso
          have := hm j0 h
          rw [hp0] at this
          simp at this
      subst hjj
      simpa using hm i hij
    have HST := Lib.hid hst
    rw [hi, hn] at hidx
    rw [hn]
    have hj0n : j0 < n := by omega
    have hne1 : ((j0 : Int) == -1) = false := beq_eq_false_iff_ne.2 (by omega)
    clear hfd hi hst hr hc hn eg hp0 hj0
    go_enter Try.func32, Try.ntmps32
    go_wp2_with fail
    refine hidx.mono ?_
    rintro r w1 ⟨rfl, hb1⟩
    have HB1 : Hid (OG g w w1) := OG.of_below hb1
    have HR1 := Lib.hid (HR.out.after hb1)
    clear hb1 hidx HR
    go_wp2
    go_loopg [5, 6, 7] n (fun kx s5 s6 _ wr => ∃ (i j : Nat) (dl : List Fa), s5 = .int .i64 i ∧ s6 = .int .i64 j ∧ i < j ∧ j ≤ n ∧ n - j ≤ kx ∧ Hid (FRow wr g dl) ∧ Hid (OG g w wr) ∧ Hid (Kept2 k l dl i j))
    case atStart => exact ⟨j0, j0 + 1, l, rfl, by go_num, by omega, by omega, by omega, HR1, HB1, HST⟩
    case round =>
      clear HR1 HB1 HST
      obtain ⟨i, j, dl, rfl, rfl, hij, hjn, hkx, HFR, HOG, HKP⟩ := hrel
      have hdl : dl.length = n := by rw [HKP.out.1]; exact HN.out
      by_cases hlt : j < n
      · have hltz : (j : Int) < (n : Int) := by omega
        have hiz : (i : Int) < (n : Int) := by omega
        have hjl : j < l.length := by have := HN.out; omega
        have hrj : wr.rangeAt g (j * 4) (encF l[j]) := by rw [← HKP.out.at hjl]; exact (HFR.out.2 j (by omega)).1
        have HSK : Hid ((l[j].2.1 == k) = true → Kept2 k l dl i (j + 1)) := fun h => HKP.out.skip hjl h
        have HKE : Hid ((l[j].2.1 == k) = false → Kept2 k l (dl.set i l[j]) (i + 1) (j + 1)) := fun h => HKP.out.keep hij hjl h
        generalize l[j] = x at hrj HSK HKE
        have HRJ := Lib.hid hrj
        have hK0 : Blk (wr.alloc (.cells (encF f0).toArray 26)) wr.heap.size (encF f0).toArray 26 := Blk.new wr _ _
        obtain ⟨w2, hw2⟩ : ∃ w2, (wr.alloc (.cells (encF f0).toArray 26)).setRow wr.heap.size (encF x).toArray = w2 := ⟨_, rfl⟩
        have hK2 : Blk w2 wr.heap.size (encF x).toArray 26 := by rw [← hw2]; exact hK0.put _
        have hb2 : Below wr.heap.size wr w2 := by rw [← hw2]; exact below_put (Nat.le_refl _) _ ((Below.refl _ wr).alloc (Nat.le_refl _) _)
        have hog2 : OG g w w2 := HOG.out.trans (OG.of_below hb2)
        obtain ⟨hB2, hc2⟩ := HC.out w2 hog2
        have hdel := fa_other k B x w2 hB2 hc2
        have K0 := Lib.hid hK0
        have K2 := Lib.hid hK2
        have HW := Lib.hid hw2
        have HOG2 := Lib.hid hog2
        have HFR2 := Lib.hid (HFR.out.after hb2)
        have HDL := Lib.hid hdl
        clear hrj hK0 hK2 hw2 hb2 hog2 hjl hdl HKP HOG HFR hB2 hc2
        cases hq : x.2.1 == k with
        | true =>
          rw [hq] at hdel
          have HF := Lib.hid (HSK.out hq)
          go_wp2_with (first
            | (refine wpList_load_mid rfl 26 (.tmp 24) rfl g (j * 4) rfl (encF x) _ HRJ.out Try.underlying26 rfl size_fault ?_)
            | (refine wpList_store_row rfl 26 (.tmp 7) (.tmp 25) rfl wr.heap.size (encF x).toArray rfl rfl 26 (encF f0).toArray K0.out size_fault rfl (encF_all _) ?_; change wpList _ _ _ _ _ ((wr.alloc (.cells (encF f0).toArray 26)).setRow wr.heap.size (encF x).toArray); rw [HW.out])
            | (refine wpList_load_row rfl 26 (.tmp 7) rfl wr.heap.size rfl 26 (encF x).toArray (0, 0) _ K2.out Try.underlying26 rfl size_fault ?_))
          refine hdel.mono ?_
          rintro r w3 ⟨rfl, hb3⟩
          have HB3 := Lib.hid hb3
          clear hb3 hdel
          go_wp2_with fail
          go_roundg (n - (j + 1))
          case measure => omega
          case rel => exact ⟨i, j + 1, dl, rfl, by go_num, by omega, by omega, Nat.le_refl _, HFR2.out.after HB3.out, HOG2.out.trans (OG.of_below HB3.out), HF⟩
        | false =>
          rw [hq] at hdel
          have HF := Lib.hid (HKE.out hq)
          go_wp2_with (first
            | (refine wpList_load_mid rfl 26 (.tmp 24) rfl g (j * 4) rfl (encF x) _ HRJ.out Try.underlying26 rfl size_fault ?_)
            | (refine wpList_store_row rfl 26 (.tmp 7) (.tmp 25) rfl wr.heap.size (encF x).toArray rfl rfl 26 (encF f0).toArray K0.out size_fault rfl (encF_all _) ?_; change wpList _ _ _ _ _ ((wr.alloc (.cells (encF f0).toArray 26)).setRow wr.heap.size (encF x).toArray); rw [HW.out])
            | (refine wpList_load_row rfl 26 (.tmp 7) rfl wr.heap.size rfl 26 (encF x).toArray (0, 0) _ K2.out Try.underlying26 rfl size_fault ?_))
          refine hdel.mono ?_
          rintro r w3 ⟨rfl, hb3⟩
          have K3 := Lib.hid (K2.out.after hb3)
          have HFR3 := Lib.hid (HFR2.out.after hb3)
          have HOG3 := Lib.hid (HOG2.out.trans (OG.of_below hb3))
          have HTH : Hid (w3.there g (i * 4) (encF x).toArray.size) := (HFR3.out.2 i (by have := HDL.out; omega)).2
          have HFR4 := Lib.hid (HFR3.out.set i x (by have := HDL.out; omega))
          have HOG4 := Lib.hid (HOG3.out.trans (OG.cells w3 (i * 4) (encF x)))
          clear hb3 hdel
          go_wp2_with (first
            | (refine wpList_load_row rfl 26 (.tmp 7) rfl wr.heap.size rfl 26 (encF x).toArray (0, 0) _ K3.out Try.underlying26 rfl size_fault ?_)
            | (refine wpList_store_mid rfl 26 (.tmp 33) (.tmp 32) rfl g (i * 4) (encF x).toArray rfl rfl HTH.out size_fault (encF_all _) ?_))
          go_roundg (n - (j + 1))
          case measure => omega
          case rel => exact ⟨i + 1, j + 1, dl.set i x, by go_num, by go_num, by omega, by omega, Nat.le_refl _, HFR4, HOG4, HF⟩
      · obtain rfl : j = n := by omega
        have hltz : ¬ (j : Int) < (j : Int) := by omega
        have hij2 : (i : Int) ≤ (j : Int) := by omega
        have hth : wr.there g (i * 4) ((j - i) * 4) := by
          intro t ht
          have h1 := (HFR.out.2 (i + t / 4) (by omega)).2 (t % 4) (by omega)
          rw [show (i + t / 4) * 4 + t % 4 = i * 4 + t by omega] at h1
          exact h1
        have hcl : ∀ ty, Sem.run Try.prog (Builtin.clear_ #[22] ty #[.slice (some ⟨g, i * 4, none⟩) (j - i) (cap - i)]) wr = .ok (.tuple #[]) (wr.setCells g (i * 4) (zerosF (j - i))) :=
          fun ty => run_clear_f wr ty g (i * 4) (j - i) (cap - i) (by omega) hth
        have hall : dl.take i = others k l := by
          have := HKP.out.2.1
          rwa [show j = l.length from HN.out.symm, List.take_length] at this
        have hlen : (others k l).length = i := by rw [← hall, List.length_take]; omega
        have HE : Hid (FsAt (wr.setCells g (i * 4) (zerosF (j - i))) (some ⟨g, 0, none⟩) (others k l)) := by
          intro _
          refine ⟨g, 0, rfl, by rw [size_setCellsF]; exact HFR.out.1, fun t ht => ?_⟩
          rw [Nat.zero_add]
          have hti : t < i := by omega
          have htd : t < dl.length := by omega
          have e : (others k l)[t] = dl[t] := by
            have : (others k l)[t]? = dl[t]? := by rw [← hall, List.getElem?_take_of_lt hti]
            rw [List.getElem?_eq_getElem ht, List.getElem?_eq_getElem htd] at this
            exact Option.some.inj this
          rw [e]
          exact World.rangeAt_setCells_apart (HFR.out.2 t htd).1 g (i * 4) (zerosF (j - i)) (Or.inr (Or.inl (by rw [encF_len]; omega)))
        have HOG9 := Lib.hid (HOG.out.trans (OG.cells wr (i * 4) (zerosF (j - i))))
        have HLN := Lib.hid hlen
        generalize zerosF (j - i) = vs at hcl HE HOG9
        clear hth hall hlen HFR HOG HKP hdl
        go_wp2
        go_ret
        exact ⟨by rw [HLN.out]; rfl, HE.out, HOG9.out⟩

end Go.Proofs.Ytbpkaegkcknemaa
