/- Texts of one claim, merged: SnC8, SnC9, SnR4b, SnCA. -/
import Derived.Test.YtidakannaephoaaDoorS6
import Derived.Test.YtidakannaephoaaDoorS5
import Derived.Recover
import Derived.Defers

/- Package snap, walked: the reader over its pages: what it has read, and where it gives up. -/
namespace Go.Proofs.YtidakannaephoaaDoor
set_option maxRecDepth 100000
open Go.RowKit

theorem fold_app : ∀ (l : List ByteArray) (a : ByteArray), l.foldl (· ++ ·) a = a ++ l.foldl (· ++ ·) ByteArray.empty
  | [], a => by apply bytes_eq; simp
  | x :: l, a => by
    rw [List.foldl_cons, List.foldl_cons, fold_app l (a ++ x), fold_app l (ByteArray.empty ++ x)]
    apply bytes_eq
    simp [ByteArray.data_append]
theorem catP_app (a b : List ByteArray) : catP (a ++ b) = catP a ++ catP b := by
  unfold catP
  rw [List.foldl_append, fold_app]
theorem toL_app (a b : ByteArray) : (a ++ b).data.toList = a.data.toList ++ b.data.toList := by rw [ByteArray.data_append, Array.toList_append]
theorem catP_size (Y : Nat) (l : List ByteArray) : ∀ k, k ≤ l.length → (∀ j (h : j < l.length), j < k → l[j].size = Y) → (catP (l.take k)).size = k * Y
  | 0, _, _ => by rw [Nat.zero_mul]; rfl
  | k + 1, hk, h => by
    rw [catP_step l k (by omega), ByteArray.size_append, catP_size Y l k (by omega) (fun j hj hjk => h j hj (by omega)), h k (by omega) (by omega), Nat.add_mul, Nat.one_mul]
theorem ext_left (a b : ByteArray) (p q : Nat) (h : q ≤ a.size) : (a ++ b).extract p q = a.extract p q := by
  apply bytes_eq
  rw [ByteArray.data_extract, Array.toList_extract, ByteArray.data_extract, Array.toList_extract, toL_app]
  have hq : q ≤ a.data.toList.length := by rw [Array.length_toList]; exact h
  rw [List.extract_eq_take_drop, List.extract_eq_take_drop, ← List.drop_take, ← List.drop_take, List.take_append_of_le_length hq]
theorem catP_ext (l : List ByteArray) (k p q : Nat) (h : q ≤ (catP (l.take k)).size) : (catP l).extract p q = (catP (l.take k)).extract p q := by
  have e : catP l = catP (l.take k) ++ catP (l.drop k) := by rw [← catP_app, List.take_append_drop]
  rw [e, ext_left _ _ _ _ h]
theorem ext_ext (s : ByteArray) (a b c d : Nat) (h : a + d ≤ b) : (s.extract a b).extract c d = s.extract (a + c) (a + d) := by
  rw [ByteArray.extract_extract, Nat.min_eq_left h]
theorem ext_app (s t : ByteArray) (a : Nat) (h : a ≤ s.size) : s.extract a s.size ++ t = (s ++ t).extract a (s.size + t.size) := by
  apply bytes_eq
  rw [toL_app, ByteArray.data_extract, Array.toList_extract, ByteArray.data_extract, Array.toList_extract, toL_app]
  rw [List.extract_eq_take_drop, List.extract_eq_take_drop]
  have h1 : s.data.toList.length = s.size := Array.length_toList
  have h2 : t.data.toList.length = t.size := Array.length_toList
  rw [List.take_of_length_le (by rw [List.length_drop]; omega), List.take_of_length_le (by rw [List.length_drop, List.length_append]; omega), List.drop_append_of_le_length (by omega)]

/-- the reader, p bytes of the pages' text behind it, k pages begun -/
def GPre (ps : List ByteArray) (Y p k : Nat) : Prop := (p ≤ k * Y ∧ k * Y < p + Y) ∧ k ≤ ps.length ∧ ∀ j (h : j < ps.length), j < k → ps[j].size = Y
def GS (w : World) (R B : Nat) (ps : List ByteArray) (Y p k : Nat) : Prop := GPre ps Y p k ∧ RdS w R B (ps.drop k) Y ((catP (ps.take k)).extract p (k * Y))
/-- is there enough for n bytes more? -/
def NumOk (ps : List ByteArray) (Y p n k : Nat) : Prop := p + n ≤ k * Y ∨ ∃ h : k < ps.length, ps[k].size = Y
theorem GS.start (w : World) (R B : Nat) (ps : List ByteArray) (Y : Nat) (hY : 1 ≤ Y) (h : RdS w R B ps Y ByteArray.empty) : GS w R B ps Y 0 0 := by
  refine ⟨⟨⟨Nat.zero_le _, by omega⟩, Nat.zero_le _, fun j _ h => absurd h (Nat.not_lt_zero _)⟩, ?_⟩
  rw [List.drop_zero, Nat.zero_mul]
  have e : (catP (ps.take 0)).extract 0 0 = ByteArray.empty := by apply bytes_eq; simp [catP]
  rw [e]; exact h

theorem step_yes (w : World) (R B : Nat) (ps : List ByteArray) (Y p n k : Nat) (h1 : 1 ≤ n) (h6 : n ≤ 6) (hY : 16 ≤ Y) (hY2 : Y ≤ 256) (hG : GS w R B ps Y p k) (hok : NumOk ps Y p n k) :
    Calls Tryd.prog 41 #[.pointer (some ⟨R, 0, none⟩), .int .i64 n] w fun e w' => e = .returned (.int .i64 (numAt (catP ps) p n)) ∧ (∃ k', GS w' R B ps Y (p + n) k') ∧ Turns R w w' := by
  obtain ⟨⟨⟨g1, g2⟩, g3, g4⟩, hR⟩ := hG
  have hs := catP_size Y ps k g3 g4
  have hrz : ((catP (ps.take k)).extract p (k * Y)).size = k * Y - p := by rw [ByteArray.size_extract, hs]; omega
  by_cases hn : p + n ≤ k * Y
  · refine (num_has w R B n _ Y _ h1 h6 (by rw [hrz]; omega) (by rw [hrz]; omega) hR).mono ?_
    rintro e w' ⟨rfl, hr, ht⟩
    rw [hrz] at hr
    rw [ext_ext _ _ _ _ _ (by omega), Nat.add_zero]
    rw [ext_ext _ _ _ _ _ (by omega), show p + (k * Y - p) = k * Y by omega] at hr
    refine ⟨?_, ⟨k, ⟨⟨hn, by omega⟩, g3, g4⟩, hr⟩, ht⟩
    unfold numAt
    rw [catP_ext ps k p (p + n) (by omega)]
  · obtain ⟨hk, hpz⟩ : ∃ h : k < ps.length, ps[k].size = Y := hok.resolve_left hn
    rw [List.drop_eq_getElem_cons hk] at hR
    have h2 : (k + 1) * Y = k * Y + Y := by rw [Nat.add_mul, Nat.one_mul]
    refine (num_page w R B n ps[k] _ Y _ h1 h6 (by rw [hrz]; omega) hpz (by omega) hY2 hR).mono ?_
    rintro e w' ⟨rfl, hr, ht⟩
    have hst := catP_step ps k hk
    have hs2 : (catP (ps.take (k + 1))).size = (k + 1) * Y := by rw [hst, ByteArray.size_append, hs, hpz, h2]
    have ej : (catP (ps.take k)).extract p (k * Y) ++ ps[k] = (catP (ps.take (k + 1))).extract p ((k + 1) * Y) := by
      rw [hst, ← hs, ext_app _ _ _ (by omega), hs, hpz, h2]
    have hjz : ((catP (ps.take (k + 1))).extract p ((k + 1) * Y)).size = (k + 1) * Y - p := by rw [ByteArray.size_extract, hs2]; omega
    rw [ej, hjz] at hr
    rw [ej, ext_ext _ _ _ _ _ (by omega), Nat.add_zero]
    rw [ext_ext _ _ _ _ _ (by omega), show p + ((k + 1) * Y - p) = (k + 1) * Y by omega] at hr
    refine ⟨?_, ⟨k + 1, ⟨⟨by omega, by omega⟩, hk, fun j hj hjk => ?_⟩, hr⟩, ht⟩
    · unfold numAt
      rw [catP_ext ps (k + 1) p (p + n) (by omega)]
      rfl
    · rcases Nat.lt_or_ge j k with h5 | h5
      · exact g4 j hj h5
      · obtain rfl : j = k := by omega
        exact hpz
theorem step_no (w : World) (R B : Nat) (ps : List ByteArray) (Y p n k : Nat) (hY2 : Y ≤ 256) (hG : GS w R B ps Y p k) (hok : ¬ NumOk ps Y p n k) :
    Calls Tryd.prog 41 #[.pointer (some ⟨R, 0, none⟩), .int .i64 n] w (NumN R w) := by
  obtain ⟨⟨⟨g1, g2⟩, g3, g4⟩, hR⟩ := hG
  have hs := catP_size Y ps k g3 g4
  have hrz : ((catP (ps.take k)).extract p (k * Y)).size = k * Y - p := by rw [ByteArray.size_extract, hs]; omega
  have hn : ¬ p + n ≤ k * Y := fun h => hok (Or.inl h)
  refine num_none w R B n _ Y _ (by rw [hrz]; omega) (by rw [hrz]; omega) (fun q r hq hqz => hok (Or.inr ?_)) hR
  have hk : k < ps.length := by
    rcases Nat.lt_or_ge k ps.length with h | h
    · exact h
    · rw [List.drop_eq_nil_of_le h] at hq; cases hq
  refine ⟨hk, ?_⟩
  rw [List.drop_eq_getElem_cons hk] at hq
  cases hq
  exact hqz

theorem sn_end (w : World) (R B : Nat) (l : List ByteArray) (Y : Nat) (rest : ByteArray) (hz : rest.size ≤ 1000000) (h : RdS w R B l Y rest) :
    Calls Tryd.prog 42 #[.pointer (some ⟨R, 0, none⟩)] w fun e w' => ((l.length = 0 ∧ Noughts rest) → e = .returned (.tuple #[])) ∧ (¬ (l.length = 0 ∧ Noughts rest) → e = .panicked snapP) ∧ w = w' := by
  obtain ⟨oa, cap, h⟩ := h
  have c0 := h.cells.1
  have c2 := h.cells.2.2.1
  obtain ⟨m, hm⟩ : ∃ m, l.length = m := ⟨_, rfl⟩
  rw [hm] at c0 ⊢
  clear h hm
  have HNO := Lib.hid (sn_noughts rest w hz)
  by_cases h0 : m = 0
  · subst h0
    have hzb : (((0 : Nat) : Int) == 0) = true := rfl
    by_cases hn : Noughts rest
    · have HN := Lib.hid hn
      have HD : Hid (decide (Noughts rest) = true) := decide_eq_true hn
      clear hn
      go_enter Tryd.func42, Tryd.ntmps42
      go_wp2_with fail
      refine HNO.out.mono ?_
      rintro e w1 ⟨rfl, rfl⟩
      rw [HD.out]
      go_wp2_with fail
      refine (must_yes _).mono ?_
      rintro e w1 ⟨rfl, rfl⟩
      go_wp2_with fail
      refine bodyPost_end (results_none rfl _ _ _) rfl ?_
      exact ⟨fun _ => rfl, fun h => absurd ⟨trivial, HN.out⟩ h, rfl⟩
    · have HN := Lib.hid hn
      have HD : Hid (decide (Noughts rest) = false) := decide_eq_false hn
      clear hn
      go_enter Tryd.func42, Tryd.ntmps42
      go_wp2_with fail
      refine HNO.out.mono ?_
      rintro e w1 ⟨rfl, rfl⟩
      rw [HD.out]
      go_wp2_with fail
      refine (must_no _).mono ?_
      rintro e w1 ⟨rfl, rfl⟩
      exact ⟨rfl, fun h => absurd h.2 HN.out, fun _ => rfl, rfl⟩
  · have hzb : ((m : Int) == 0) = false := by simp; omega
    have HM := Lib.hid h0
    clear h0
    go_enter Tryd.func42, Tryd.ntmps42
    go_wp2_with fail
    refine (must_no _).mono ?_
    rintro e w1 ⟨rfl, rfl⟩
    exact ⟨rfl, fun h => absurd h.1 HM.out, fun _ => rfl, rfl⟩

end Go.Proofs.YtidakannaephoaaDoor

/- Package snap, walked: what read defers. -/
namespace Go.Proofs.YtidakannaephoaaDoor
set_option maxRecDepth 100000
open Go.RowKit

theorem assert_nil (w : World) : (Instr.typeAssert .nilIface 20 29 true).run Tryd.prog w = .ok (.tuple #[.int .i64 0, .bool false]) w := by kernel_rfl
theorem assert_code (v : Value) (w : World) : (Instr.typeAssert (.iface 29 v) 20 29 true).run Tryd.prog w = .ok (.tuple #[v, .bool true]) w := by kernel_rfl

theorem read1_idle (S E : Nat) (w : World) :
    CallsD Tryd.prog 40 #[.pointer (some ⟨S, 0, none⟩), .pointer (some ⟨E, 0, none⟩)] .returning w fun e u' w' => e = .returned (.tuple #[]) ∧ u' = .returning ∧ w' = w := by
  refine callsD_of_wpS Tryd.func40 rfl fun c₀ cs hu => ?_
  apply wpS_seq
  apply wpS_region
  have hrec : recoverD (c₀ :: cs) = none := by simp [recoverD, hu]
  simp only [Tryd.ntmps40, List.size_toArray, List.length_cons, List.length_nil, Nat.reduceAdd, Nat.reduceSub, Array.replicate_succ, Array.replicate_zero, List.push_toArray, List.append_toArray, List.nil_append, List.cons_append]
  change wpOpsS _ _ _ [0, 1, 2, 3, 4, 5, 6] _ _ _
  simp [wpOpsS, go_sem, hrec, Exit.thenS, assert_nil]
  apply wpS_seq
  apply wpS_region
  simp [wpOpsS, go_sem, Exit.thenS]
  refine wpS_cond (t := false) (by simp [Act.eval]) ?_
  simp only [Bool.false_eq_true, if_false]
  refine wpS_of_wp (wp_skip ?_)
  cases c₀
  simp_all [bodyPostS, results, Tryd.results40]

/-- what the deferred call leaves behind a panic -/
def CatchW (S E : Nat) (w w' : World) : Prop := w' = (w.setRow S nil4).setCell ⟨E, 0, none⟩ (.int .i64 130)
theorem read1_panic (S E : Nat) (w : World) (A : Array Value) (u : Value) (hA : A.size = 4) (hS : Blk w S A 26) (hE : Blk w E #[u] 29) (hne : S ≠ E) :
    CallsD Tryd.prog 40 #[.pointer (some ⟨S, 0, none⟩), .pointer (some ⟨E, 0, none⟩)] (.panicking snapP) w fun e u' w' =>
      e = .returned (.tuple #[]) ∧ u' = .panicking [{ v := .iface 29 (.int .i64 130), recovered := true }] ∧ CatchW S E w w' := by
  have hE2 : Blk (w.setRow S nil4) E #[u] 29 := hE.put_other hne nil4
  have hc : (w.setRow S nil4).cell? ⟨E, 0, none⟩ = some u := hE2.cell 0
  have hf : (w.setRow S nil4).frozen? ⟨E, 0, none⟩ = false := hE2.free 0
  have HS := Lib.hid hS
  clear hE hS hE2 hne
  refine callsD_of_wpS Tryd.func40 rfl fun c₀ cs hu => ?_
  apply wpS_seq
  apply wpS_region
  have hrec : recoverD (c₀ :: cs) = some (.iface 29 (.int .i64 130), { c₀ with mode := .panicking [{ v := .iface 29 (.int .i64 130), recovered := true }] } :: cs) := by simp [recoverD, hu, snapP]
  simp only [Tryd.ntmps40, List.size_toArray, List.length_cons, List.length_nil, Nat.reduceAdd, Nat.reduceSub, Array.replicate_succ, Array.replicate_zero, List.push_toArray, List.append_toArray, List.nil_append, List.cons_append]
  change wpOpsS _ _ _ [0, 1, 2, 3, 4, 5, 6] _ _ _
  simp [wpOpsS, go_sem, hrec, Exit.thenS, assert_code]
  apply wpS_seq
  apply wpS_region
  simp [wpOpsS, go_sem, Exit.thenS]
  refine wpS_cond (t := true) (by simp [Act.eval]) ?_
  simp only [if_true]
  refine wpS_of_wp ?_
  have hsz : A.size = nil4.size := by rw [hA]; rfl
  go_wp2_with (first
    | (refine wpList_store_row rfl 26 (.tmp 0) (.tmp 10) rfl S nil4 rfl rfl 26 A HS.out size_state hsz nil4_one ?_))
  simp [bodyPostS, results, Tryd.results40, go_sem, CatchW]

end Go.Proofs.YtidakannaephoaaDoor

/- Rows of the call's own as what is durable. -/
namespace Go.Proofs.YtidakannaephoaaDoor
set_option maxRecDepth 100000
open Go.RowKit

theorem own_iv {w : World} {B : Nat} {v : Value} {l : List Int} (h : w.ownsRow B 3 1 v l.length (intV l)) : IvAt w v l := by
  have h' := h
  rcases h.2 with ⟨rfl, h0⟩ | ⟨g, cap, cur, rfl, hb, hg, hc, hm, hcs, ht⟩
  · obtain rfl : l = [] := List.eq_nil_of_length_eq_zero h0
    exact IvAt.nil w
  · refine ⟨some ⟨g, 0, none⟩, cap, rfl, ⟨hc, hm⟩, fun _ => ⟨g, 0, rfl, (Array.getElem?_eq_some_iff.1 hg).1, fun i hi => ?_⟩⟩
    rw [Nat.zero_add]
    refine cell_of_rowX h' rfl i _ ?_
    unfold intV
    rw [List.getElem?_map, List.getElem?_eq_getElem hi]; rfl
theorem own_oneS {w : World} {B z n : Nat} {v : Value} {xs : List Value} {e : TypeId} (h : w.ownsRow B e z v n xs) : v.oneCell' = true := by
  rcases h.2 with ⟨rfl, _⟩ | ⟨g, cap, cur, rfl, _⟩ <;> rfl
theorem FourR.one {w : World} {B : Nat} {a b c d : Value} {L : List (List Int)} (h : FourR w B [a, b, c, d] L) : (#[a, b, c, d] : Array Value).all (·.oneCell') = true := by
  have h0 : a.oneCell' = true := own_oneS (h.1 0 (by decide))
  have h1 : b.oneCell' = true := own_oneS (h.1 1 (by decide))
  have h2 : c.oneCell' = true := own_oneS (h.1 2 (by decide))
  have h3 : d.oneCell' = true := own_oneS (h.1 3 (by decide))
  simp [h0, h1, h2, h3]
theorem FourR.setRow {w : World} {B b : Nat} {V : List Value} {L : List (List Int)} (h : FourR w B V L) (hb : b < B) (cs : Array Value) : FourR (w.setRow b cs) B V L := by
  refine ⟨fun k hk => ?_, h.2⟩
  have hu := h.1 k hk
  refine ⟨hu.1, ?_⟩
  rcases hu.2 with ⟨h0, h1⟩ | ⟨g, cap, cur, h0, hbg, hgc, h1⟩
  · exact .inl ⟨h0, h1⟩
  · refine .inr ⟨g, cap, cur, h0, hbg, ?_, h1⟩
    simp only [World.setRow, Array.getElem?_modify]
    rw [if_neg (by omega)]; exact hgc
theorem FourR.snat {w : World} {B : Nat} {a b c d : Value} {l1 l2 l3 l4 : List Int} (h : FourR w B [a, b, c, d] [l1, l2, l3, l4]) : SnAt w #[a, b, c, d] ⟨l1, l2, l3, l4⟩ :=
  ⟨a, b, c, d, rfl, own_iv (h.1 0 (by decide)), own_iv (h.1 1 (by decide)), own_iv (h.1 2 (by decide)), own_iv (h.1 3 (by decide))⟩

end Go.Proofs.YtidakannaephoaaDoor

/- Package snap, walked: what read holds as it goes. -/
namespace Go.Proofs.YtidakannaephoaaDoor
set_option maxRecDepth 100000
open Go.RowKit

theorem own_keepS {w w' : World} {B z n : Nat} {u : Value} {xs : List Value} {e : TypeId} (hu : w.ownsRow B e z u n xs) (hk : ∀ g, B ≤ g → g < w.heap.size → w'.heap[g]? = w.heap[g]?) : w'.ownsRow B e z u n xs := by
  refine ⟨hu.1, ?_⟩
  have hlt := hu.lt
  rcases hu.2 with ⟨rfl, h0⟩ | ⟨g, cap, cur, rfl, hbg, hgc, h1⟩
  · exact .inl ⟨rfl, h0⟩
  · have h2 := (hlt g rfl).2
    exact .inr ⟨g, cap, cur, rfl, hbg, (hk g hbg h2).trans hgc, h1⟩
theorem FourR.turns {w w' : World} {B R : Nat} {V : List Value} {L : List (List Int)} (h : FourR w B V L) (hR : R < B) (ht : Turns R w w') : FourR w' B V L :=
  ⟨fun k hk => own_keepS (h.1 k hk) fun g hg hlt => ht.block g hlt (fun e => by cases e; omega), h.2⟩
theorem FourR.drew {w : World} {B : Nat} {V : List Value} {L : List (List Int)} (h : FourR w B V L) : FourR w.drew B V L := h
theorem blk_turns {w w' : World} {b R : Nat} {cs : Array Value} {t : TypeId} (h : Blk w b cs t) (ht : Turns R w w') (hne : R ≠ b) : Blk w' b cs t := blk_grownS h ht (fun e => hne (by cases e; rfl))

/-- the blocks of read, the reader over its pages, what is taken so far -/
def RW (w0 : World) (G : Array Value) (R : Nat) (ps : List ByteArray) (Y p k : Nat) (V : List Value) (L : List (List Int)) (w : World) : Prop :=
  ((Blk w w0.heap.size G 23 ∧ Blk w (w0.heap.size + 1) ⟨V⟩ 26 ∧ Blk w (w0.heap.size + 2) #[.int .i64 0] 29) ∧ (V.length = 4 ∧ L.length = 4) ∧ FourR w (w0.heap.size + 3) V L)
  ∧ GS w R w0.heap.size ps Y p k ∧ (R < w0.heap.size ∧ w0.heap.size + 3 ≤ w.heap.size) ∧ Turns R w0 w
theorem fourR_nil (w : World) (B : Nat) : FourR w B [.slice none 0 0, .slice none 0 0, .slice none 0 0, .slice none 0 0] [[], [], [], []] := by
  refine ⟨fun k hk => ?_, fun j k hj hk _ g hg => ?_⟩
  · match k, hk with
    | 0, _ => exact ⟨rfl, .inl ⟨rfl, rfl⟩⟩
    | 1, _ => exact ⟨rfl, .inl ⟨rfl, rfl⟩⟩
    | 2, _ => exact ⟨rfl, .inl ⟨rfl, rfl⟩⟩
    | 3, _ => exact ⟨rfl, .inl ⟨rfl, rfl⟩⟩
  · match j, hj with
    | 0, _ => cases hg
    | 1, _ => cases hg
    | 2, _ => cases hg
    | 3, _ => cases hg
theorem RW.start (w0 : World) (G : Array Value) (R : Nat) (ps : List ByteArray) (Y : Nat) (hY : 1 ≤ Y) (hR : R < w0.heap.size) (h : RdS w0 R w0.heap.size ps Y ByteArray.empty) :
    RW w0 G R ps Y 0 0 [.slice none 0 0, .slice none 0 0, .slice none 0 0, .slice none 0 0] [[], [], [], []] (((w0.alloc (.cells G 23)).alloc (.cells nil4 26)).alloc (.cells #[.int .i64 0] 29)) := by
  have hb : Below w0.heap.size w0 (((w0.alloc (.cells G 23)).alloc (.cells nil4 26)).alloc (.cells #[.int .i64 0] 29)) := (((Below.refl _ _).alloc (Nat.le_refl _) _).alloc (by simp) _).alloc (by simp; omega) _
  have b1 : Blk ((w0.alloc (.cells G 23)).alloc (.cells nil4 26)) (w0.heap.size + 1) nil4 26 := by
    have h := Blk.new (w0.alloc (.cells G 23)) nil4 26
    rwa [World.size_alloc] at h
  have b2 : Blk (((w0.alloc (.cells G 23)).alloc (.cells nil4 26)).alloc (.cells #[.int .i64 0] 29)) (w0.heap.size + 2) #[.int .i64 0] 29 := by
    have h := Blk.new ((w0.alloc (.cells G 23)).alloc (.cells nil4 26)) #[.int .i64 0] 29
    rwa [World.size_alloc, World.size_alloc] at h
  refine ⟨⟨⟨((Blk.new _ _ _).alloc _).alloc _, b1.alloc _, b2⟩, ⟨rfl, rfl⟩, fourR_nil _ _⟩, GS.start _ _ _ _ _ hY (h.below hR fun k hk => hb.block k hk), ⟨hR, by simp⟩, ⟨hb.os, hb.tape, hb.output, hb.size, fun k hk _ => hb.block k hk⟩⟩
theorem RW.drew {w0 w : World} {G : Array Value} {R : Nat} {ps : List ByteArray} {Y p k : Nat} {V : List Value} {L : List (List Int)} (h : RW w0 G R ps Y p k V L w) : RW w0 G R ps Y p k V L w.drew :=
  ⟨h.1, h.2.1, h.2.2.1, h.2.2.2.drew⟩
/-- a call of the reader -/
theorem RW.turn {w0 w w' : World} {G : Array Value} {R : Nat} {ps : List ByteArray} {Y p k q j : Nat} {V : List Value} {L : List (List Int)} (h : RW w0 G R ps Y p k V L w) (ht : Turns R w w') (hg : GS w' R w0.heap.size ps Y q j) : RW w0 G R ps Y q j V L w' := by
  obtain ⟨⟨⟨h1, h2, h3⟩, h4, h5⟩, _, ⟨h6, h7⟩, h8⟩ := h
  exact ⟨⟨⟨blk_turns h1 ht (by omega), blk_turns h2 ht (by omega), blk_turns h3 ht (by omega)⟩, h4, h5.turns (by omega) ht⟩, hg, ⟨h6, Nat.le_trans h7 ht.size⟩, h8.trans ht⟩
theorem RW.own {w0 w : World} {G : Array Value} {R : Nat} {ps : List ByteArray} {Y p k : Nat} {V : List Value} {L : List (List Int)} (h : RW w0 G R ps Y p k V L w) (i : Nat) (hi : i < 4) : w.ownsRow (w0.heap.size + 3) 3 1 (V.getD i undef) (L.getD i []).length (intV (L.getD i [])) := h.1.2.2.1 i hi
/-- one number more, in row i: the append, then the store -/
theorem RW.store {w0 w w5 : World} {G : Array Value} {R : Nat} {ps : List ByteArray} {Y p k : Nat} {V : List Value} {L : List (List Int)} (h : RW w0 G R ps Y p k V L w) {i : Nat} (hi : i < 4) {o : Obj} {x : Int} {m g cap : Nat} (hm : (L.getD i []).length = m)
    (hown : w5.ownsRow (w0.heap.size + 3) 3 1 (.slice (some ⟨g, 0, none⟩) (m + 1) cap) (m + 1) (intV (L.getD i []) ++ [.int .i64 x])) (hg : (w.alloc o).grownBy w5 (V.getD i undef).ownBlock) (hat : (V.getD i undef).ownBlock = some g ∨ g = w.heap.size + 1) :
    RW w0 G R ps Y p k (V.set i (.slice (some ⟨g, 0, none⟩) (m + 1) cap)) (L.set i (L.getD i [] ++ [x])) (w5.setCell ⟨w0.heap.size + 1, i, none⟩ (.slice (some ⟨g, 0, none⟩) (m + 1) cap)) := by
  have hold := h.own i hi
  obtain ⟨⟨⟨h1, h2, h3⟩, ⟨h4, h4'⟩, h5⟩, h6, ⟨h7, h8⟩, h9⟩ := h
  have hne : ∀ b, b < w0.heap.size + 3 → (V.getD i undef).ownBlock ≠ some b := fun b hb => own_ne hold hb
  have hlow : ∀ b, b < w0.heap.size + 3 → w5.heap[b]? = w.heap[b]? := fun b hb => by
    rw [hg.block b (by simp; omega) (Ne.symm (hne b hb)), heap_alloc_old _ _ (by omega)]
  have hset : ∀ b, b ≠ w0.heap.size + 1 → ∀ v : Value, (w5.setCell ⟨w0.heap.size + 1, i, none⟩ v).heap[b]? = w5.heap[b]? := fun b hb v => Below.heap_setCell _ _ _ _ hb
  have k5 : ∀ b cs t, b < w0.heap.size + 3 → Blk w b cs t → Blk w5 b cs t := fun b cs t hb hk => by
    unfold Blk at *
    rw [hlow b hb]; exact hk
  refine ⟨⟨⟨(k5 _ _ _ (by omega) h1).set_other (by omega) _ _, (k5 _ _ _ (by omega) h2).set i _ ?_, (k5 _ _ _ (by omega) h3).set_other (by omega) _ _⟩, ⟨by simp [h4], by simp [h4']⟩, ?_⟩, ⟨h6.1, h6.2.below h7 fun b hb => ?_⟩, ⟨h7, ?_⟩, ?_⟩
  · exact List.setIfInBounds_toArray _ _ _
  · refine FourR.setCell ?_ _ (by show w0.heap.size + 1 < _; omega) _
    exact h5.grow h4 h4' hi hm hown hg hat
  · rw [hset b (by omega), hlow b (by omega)]
  · rw [World.size_setCell]
    have := hg.size
    simp at this
    omega
  · refine ⟨hg.os.trans h9.os, hg.tape.trans h9.tape, hg.output.trans h9.output, ?_, fun b hb hbR => ?_⟩
    · rw [World.size_setCell]
      have := hg.size
      simp at this
      omega
    · rw [hset b (by omega), hlow b (by omega)]
      exact h9.block b hb hbR

/-- the four lists -/
def listsN (x : Sn) : List (List Int) := [x.f, x.c, x.s, x.t]
theorem FourR.mono {w : World} {B B' : Nat} {V : List Value} {L : List (List Int)} (h : FourR w B V L) (hb : B' ≤ B) : FourR w B' V L := ⟨fun k hk => ownsRow_monoS (h.1 k hk) hb, h.2⟩
/-- what read answers -/
def ReadS (M N K Y : Nat) (ps : List ByteArray) (R : Nat) (w : World) (e : Ending) (w' : World) : Prop :=
  (PagesOk ps M N K Y → ∃ a b c d, e = .returned (.tuple #[.agg #[a, b, c, d], .int .i64 0]) ∧ FourR w' w.heap.size [a, b, c, d] (listsN (ofText (catP ps) M N)))
  ∧ (¬ PagesOk ps M N K Y → e = .returned (.tuple #[.agg nil4, .int .i64 130])) ∧ Turns R w w'

/-- where the reader gives up, the pages are none of these -/
theorem no_pages {ps : List ByteArray} {M N K Y p n k : Nat} (h : ¬ NumOk ps Y p n k) (hT : p + n ≤ 6 * N + 10 * M) (hK : 6 * N + 10 * M ≤ K * Y) : ¬ PagesOk ps M N K Y := fun hp => by
  obtain ⟨h1, h2, _⟩ := hp
  rcases Nat.lt_or_ge k ps.length with h3 | h3
  · exact h (Or.inr ⟨h3, h2 _ (List.getElem_mem h3)⟩)
  · have h4 : K * Y ≤ k * Y := Nat.mul_le_mul_right Y (by omega)
    exact h (Or.inl (by omega))
theorem k_same {T K k Y : Nat} (h1 : T ≤ k * Y) (h2 : k * Y < T + Y) (h3 : T ≤ K * Y) (h4 : K * Y < T + Y) : k = K := by
  rcases Nat.lt_trichotomy k K with h | h | h
  · have h5 : (k + 1) * Y ≤ K * Y := Nat.mul_le_mul_right Y h
    rw [Nat.add_mul, Nat.one_mul] at h5; omega
  · exact h
  · have h5 : (K + 1) * Y ≤ k * Y := Nat.mul_le_mul_right Y h
    rw [Nat.add_mul, Nat.one_mul] at h5; omega
/-- at the end -/
theorem end_pages {ps : List ByteArray} {M N K Y k : Nat} (hg : GPre ps Y (6 * N + 10 * M) k) (hK : 6 * N + 10 * M ≤ K * Y) (hK2 : K * Y < 6 * N + 10 * M + Y) :
    PagesOk ps M N K Y ↔ ((ps.drop k).length = 0 ∧ Noughts ((catP (ps.take k)).extract (6 * N + 10 * M) (k * Y))) := by
  obtain ⟨⟨g1, g2⟩, g3, g4⟩ := hg
  obtain rfl := k_same g1 g2 hK hK2
  have hs := catP_size Y ps k g3 g4
  rw [List.length_drop]
  constructor
  · rintro ⟨h1, h2, h3⟩
    refine ⟨by omega, fun i hi => ?_⟩
    rw [ByteArray.size_extract, hs] at hi
    rw [byteT_ext _ _ _ _ (by omega) (by omega)]
    have h5 := h3 (6 * N + 10 * M + i) (by omega) (by omega)
    rw [show ps = ps.take k by rw [List.take_of_length_le (by omega)]] at h5
    exact h5
  · rintro ⟨h1, h2⟩
    have hl : ps.length = k := by omega
    refine ⟨hl, fun q hq => ?_, fun i h3 h4 => ?_⟩
    · obtain ⟨j, hj, rfl⟩ := List.getElem_of_mem hq
      exact g4 j hj (by omega)
    · have h5 := h2 (i - (6 * N + 10 * M)) (by rw [ByteArray.size_extract, hs]; omega)
      rw [byteT_ext _ _ _ _ (by omega) (by omega), show 6 * N + 10 * M + (i - (6 * N + 10 * M)) = i by omega, List.take_of_length_le (by omega)] at h5
      exact h5

/-- the door, behind a panic -/
theorem results_read (tmps : Array Value) (w : World) (S E : Nat) (A : Array Value) (u : Value) (t4 : tmps.getD 4 undef = .pointer (some ⟨S, 0, none⟩)) (t5 : tmps.getD 5 undef = .pointer (some ⟨E, 0, none⟩)) (hA : A.size = 4) (hS : Blk w S A 26) (hE : Blk w E #[u] 29) :
    (results Tryd.f24 tmps).run Tryd.prog w = .ok (.tuple #[.agg A, u]) w := by
  have t4' : tmps[4]?.getD undef = .pointer (some ⟨S, 0, none⟩) := by simpa using t4
  have t5' : tmps[5]?.getD undef = .pointer (some ⟨E, 0, none⟩) := by simpa using t5
  have hl := run_loadVar_row w S 26 26 A (0, 0) _ hS Tryd.underlying26 rfl (by rw [hA]; exact size_state)
  have hc : w.cell? ⟨E, 0, none⟩ = some u := hE.cell 0
  have hl2 : Sem.run Tryd.prog (loadVar 29 ⟨E, 0, none⟩) w = .ok u w := by simp [go_sem, hc]
  simp [results, t4', t5', asAddr, hl, hl2]

/-- what read defers -/
def clo (S E : Nat) : Deferred := { target := .fn (.func 40) #[.pointer (some ⟨S, 0, none⟩), .pointer (some ⟨E, 0, none⟩)], args := #[] }
theorem door_panic {Q : Ending → World → Prop} (tmps : Array Value) (w : World) (S E : Nat) (A : Array Value) (u : Value) (t4 : tmps.getD 4 undef = .pointer (some ⟨S, 0, none⟩)) (t5 : tmps.getD 5 undef = .pointer (some ⟨E, 0, none⟩)) (hA : A.size = 4) (hS : Blk w S A 26) (hE : Blk w E #[u] 29) (hne : S ≠ E)
    (hQ : Q (.returned (.tuple #[.agg nil4, .int .i64 130])) ((w.setRow S nil4).setCell ⟨E, 0, none⟩ (.int .i64 130))) :
    bodyPostD Tryd.prog Tryd.f24 Q (.panic snapP) ⟨tmps, [clo S E]⟩ w := by
  refine leaves_cons (f := 40) (args := #[.pointer (some ⟨S, 0, none⟩), .pointer (some ⟨E, 0, none⟩)]) (by simp) (by simp [go_sem]) ?_
  refine (read1_panic S E w A u hA hS hE hne).mono ?_
  rintro e u' w' ⟨rfl, rfl, hw⟩
  have hw : w' = (w.setRow S nil4).setCell ⟨E, 0, none⟩ (.int .i64 130) := hw
  subst hw
  have hE2 : Blk ((w.setRow S nil4).setCell ⟨E, 0, none⟩ (.int .i64 130)) E #[.int .i64 130] 29 := (hE.put_other hne nil4).set 0 _ rfl
  have hS2 : Blk ((w.setRow S nil4).setCell ⟨E, 0, none⟩ (.int .i64 130)) S nil4 26 := (hS.put nil4).set_other (Ne.symm hne) _ _
  exact ⟨_, results_read tmps _ S E nil4 _ t4 t5 rfl hS2 hE2, hQ⟩
theorem door_ret {Q : Ending → World → Prop} (tmps : Array Value) (w : World) (S E : Nat) (A : Array Value) (u : Value) (t4 : tmps.getD 4 undef = .pointer (some ⟨S, 0, none⟩)) (t5 : tmps.getD 5 undef = .pointer (some ⟨E, 0, none⟩)) (hA : A.size = 4) (hS : Blk w S A 26) (hE : Blk w E #[u] 29)
    (hQ : Q (.returned (.tuple #[.agg A, u])) w) :
    bodyPostD Tryd.prog Tryd.f24 Q .ret ⟨tmps, [clo S E]⟩ w := by
  refine leaves_cons (f := 40) (args := #[.pointer (some ⟨S, 0, none⟩), .pointer (some ⟨E, 0, none⟩)]) (by simp) (by simp [go_sem]) ?_
  refine (read1_idle S E w).mono ?_
  rintro e u' w' ⟨rfl, rfl, rfl⟩
  exact ⟨_, results_read tmps _ S E A _ t4 t5 hA hS hE, hQ⟩

end Go.Proofs.YtidakannaephoaaDoor
