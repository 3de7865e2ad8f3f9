/- Texts of one claim, merged: Rng, SnP, Inv3, Args, ArgsN, ArgsZ, ShC2, ShC3, ShC7, ShC8, ArgsY. -/
import Derived.RangeFuncNested
import Derived.RangeFuncBound
import Derived.RangeFuncCalls
import Derived.RangeFuncLeaves
import Derived.Shelf.Abstract
import Derived.Shelf.RegionOpen
import Derived.WalkKit
import Derived.OwnWalkIn
import Derived.TacticsInMore
import Derived.LoopNIn
import Derived.LoopIn
import Derived.Test.YtidakannaephoaaDoorS1
import Derived.Test.YtidakannaephoaaDoorS7
import Derived.Test.YtidakannaephoaaDoorS4
import Derived.Carry
import Derived.ChangeSlices
import Derived.Lib.SmallJoins
import Derived.Test.YtidakannaephoaaDoorS5
import Derived.Test.YtidakannaephoaaDoorS2
import Derived.Laws.MakeOwn
import Derived.RangeFuncBox
import Derived.Deep.Strs

/- A range over a function in a plain walk: the loop's law, how a function that holds one leaves, what a round keeps. -/
namespace Go.Proofs.YtidakannaephoaaDoor
open Go.RowKit

/-- these blocks lie as they lay: what an iterator that reads its own captured variables asks of a round -/
def KeepB (bs : List Nat) (W W' : World) : Prop := ∀ b ∈ bs, W'.heap[b]? = W.heap[b]?
theorem KeepB.refl (bs : List Nat) (W : World) : KeepB bs W W := fun _ _ => rfl
theorem KeepB.trans {bs : List Nat} {A B C : World} (h : KeepB bs A B) (k : KeepB bs B C) : KeepB bs A C := fun b hb => (k b hb).trans (h b hb)
theorem KeepB.cell {bs : List Nat} {W W' : World} (h : KeepB bs W W') {b i : Nat} (hb : b ∈ bs) : W'.cell? ⟨b, i, none⟩ = W.cell? ⟨b, i, none⟩ := by simp [World.cell?, h b hb]
theorem KeepB.set {bs : List Nat} {W : World} {g : Nat} (i : Nat) (v : Value) (hg : g ∉ bs) : KeepB bs W (W.setCell ⟨g, i, none⟩ v) :=
  fun b hm => Below.heap_setCell _ _ _ _ (fun e => hg (by simp only at e; rw [← e]; exact hm))
end Go.Proofs.YtidakannaephoaaDoor

/- What is durable, on pages and off them, there and back. -/
namespace Go.Proofs.YtidakannaephoaaDoor
set_option maxRecDepth 100000
open Go.RowKit

theorem bs_ext (s : ByteArray) (a b : Nat) : bs (s.extract a b) = ((bs s).drop a).take (b - a) := by
  unfold bs
  rw [ByteArray.data_extract, Array.toList_extract, List.extract_eq_take_drop]
theorem bs_app (a b : ByteArray) : bs (a ++ b) = bs a ++ bs b := toL_app a b
theorem bs_inj {a b : ByteArray} (h : bs a = bs b) : a = b := bytes_eq h
theorem mid_ext {α : Type} (a b c : List α) {n m : Nat} (hn : a.length = n) (hm : b.length = m) : ((a ++ (b ++ c)).drop n).take m = b := by
  subst hn hm
  rw [List.drop_left, List.take_left]

/-- the pages of a text, one behind the other again -/
def cutT (t : ByteArray) (Y k : Nat) : List ByteArray := (List.range k).map fun i => t.extract (i * Y) (i * Y + Y)
theorem cat_cut (t : ByteArray) (Y : Nat) : ∀ k, k * Y ≤ t.size → catP (cutT t Y k) = t.extract 0 (k * Y)
  | 0, _ => by
    apply bs_inj
    rw [bs_ext, Nat.zero_mul]
    rfl
  | k + 1, h => by
    have h2 : (k + 1) * Y = k * Y + Y := by rw [Nat.add_mul, Nat.one_mul]
    have e : cutT t Y (k + 1) = cutT t Y k ++ [t.extract (k * Y) (k * Y + Y)] := by unfold cutT; rw [List.range_succ, List.map_append]; rfl
    have e1 : catP [t.extract (k * Y) (k * Y + Y)] = t.extract (k * Y) (k * Y + Y) := by apply bs_inj; unfold catP; rw [List.foldl_cons, List.foldl_nil, bs_app]; rfl
    rw [e, catP_app, e1, cat_cut t Y k (by omega)]
    apply bs_inj
    rw [bs_app, bs_ext, bs_ext, bs_ext, h2, List.drop_zero, Nat.sub_zero, Nat.sub_zero, show k * Y + Y - k * Y = Y by omega, List.take_add]
theorem cut_cat (Y : Nat) (ps : List ByteArray) (h : ∀ p ∈ ps, p.size = Y) : cutT (catP ps) Y ps.length = ps := by
  apply List.ext_getElem
  · simp [cutT]
  · intro i h1 h2
    simp only [cutT, List.getElem_map, List.getElem_range]
    have hs : ∀ j (h : j < ps.length), j < ps.length → ps[j].size = Y := fun j hj _ => h _ (List.getElem_mem hj)
    have e0 : (catP (ps.take i)).size = i * Y := catP_size Y ps i (by omega) fun j hj _ => hs j hj hj
    have e1 : (catP (ps.take (i + 1))).size = (i + 1) * Y := catP_size Y ps (i + 1) (by omega) fun j hj _ => hs j hj hj
    have h3 : (i + 1) * Y = i * Y + Y := by rw [Nat.add_mul, Nat.one_mul]
    rw [catP_ext ps (i + 1) _ _ (by omega), catP_step ps i h2]
    apply bs_inj
    rw [bs_ext, bs_app, show i * Y + Y - i * Y = Y by omega]
    have h4 : (bs (catP (ps.take i))).length = i * Y := by rw [bs_length]; exact e0
    have h5 : (bs ps[i]).length = Y := by rw [bs_length]; exact hs i h2 h2
    have h6 := mid_ext (bs (catP (ps.take i))) (bs ps[i]) [] h4 h5
    rw [List.append_nil] at h6
    exact h6
theorem pgsN_cut (x : Sn) (k y : Nat) : pgsN x k y = cutT (textN x k y) y k := by
  unfold pgsN cutT
  congr 1
  funext i
  rw [page_ext]

theorem flat_split {α : Type} (f : Nat → List α) (n i : Nat) (h : i < n) : (List.range n).flatMap f = (List.range i).flatMap f ++ (f i ++ ((List.range (n - (i + 1))).map (· + (i + 1))).flatMap f) := by
  have e : List.range n = List.range (i + 1) ++ (List.range (n - (i + 1))).map (i + 1 + ·) := by
    rw [← List.range_add]; congr 1; omega
  have e2 : (fun j => i + 1 + j) = (fun j : Nat => j + (i + 1)) := by funext j; omega
  rw [e, e2, List.range_succ, List.append_assoc, List.flatMap_append, List.flatMap_append]
  simp

theorem flat_len {α : Type} (f : Nat → List α) (m : Nat) (hf : ∀ i, (f i).length = m) : ∀ n, ((List.range n).flatMap f).length = m * n
  | 0 => by simp
  | n + 1 => by rw [List.range_succ, List.flatMap_append, List.length_append, flat_len f m hf n]; simp [hf, Nat.mul_add]
theorem secB_range (l : List Int) : secB l = (List.range l.length).flatMap fun i => le (l.getD i 0) 6 := by
  unfold secB
  induction l with
  | nil => rfl
  | cons v r ih =>
    rw [List.flatMap_cons, ih, List.length_cons, List.range_succ_eq_map, List.flatMap_cons, List.flatMap_map]
    rfl
theorem num_at (s : ByteArray) (i n : Nat) (v : Int) (v0 : 0 ≤ v) (v1 : v < p2 (8 * n)) (h : ((bs s).drop i).take n = le v n) : numAt s i n = v := by
  unfold numAt
  have e : s.extract i (i + n) = leS v n := by
    apply bs_inj
    rw [bs_ext, show i + n - i = n by omega, h]
    rfl
  rw [e]
  exact numS_leS v n (by rw [rest_p2]; exact Int.ediv_eq_zero_of_lt v0 v1)

theorem bs_text (x : Sn) (K Y : Nat) : bs (textN x K Y) = secB x.f ++ ((List.range x.c.length).flatMap (blkB x) ++ List.replicate (K * Y - (bytesN x).length) 0) := by
  rw [textN_eq]
  show padN x K Y = _
  unfold padN bytesN
  rw [List.append_assoc]
/-- what fits, of the text it has -/
theorem of_text (x : Sn) (M N K Y : Nat) (h : FitS M N x) : ofText (textN x K Y) M N = x := by
  obtain ⟨⟨l1, m1⟩, ⟨l2, m2⟩, ⟨l3, m3⟩, ⟨l4, m4⟩⟩ := h
  have l1 : x.f.length = N := by omega
  have l2 : x.c.length = M := by omega
  have l3 : x.s.length = M := by omega
  have l4 : x.t.length = M := by omega
  have hb := bs_text x K Y
  generalize List.replicate (K * Y - (bytesN x).length) (0 : UInt8) = pad at hb
  have hS : (secB x.f).length = 6 * N := by rw [secB_len, l1]
  have hB : ∀ i, ((List.range i).flatMap (blkB x)).length = 10 * i := fun i => blksB_len x i
  rw [sn_ext]
  refine ⟨?_, ?_, ?_, ?_⟩
  · show (List.range N).map _ = x.f
    apply List.ext_getElem
    · simp [l1]
    · intro i h1 h2
      simp only [List.getElem_map, List.getElem_range]
      have hv := m1 _ (List.getElem_mem h2)
      refine num_at _ _ _ _ hv.1 (by rw [p2_48]; omega) ?_
      rw [hb, secB_range, flat_split _ _ i h2, List.append_assoc, List.append_assoc]
      have hg : x.f.getD i 0 = x.f[i] := by simp [List.getD_eq_getElem?_getD, h2]
      rw [hg]
      exact mid_ext _ _ _ (flat_len _ 6 (fun j => le_length 6 _) i) (le_length 6 _)
  · show (List.range M).map _ = x.c
    apply List.ext_getElem
    · simp [l2]
    · intro i h1 h2
      simp only [List.getElem_map, List.getElem_range]
      have hv := m2 _ (List.getElem_mem h2)
      refine num_at _ _ _ _ hv.1 (by rw [p2_32]; omega) ?_
      rw [hb, flat_split _ _ i h2, List.append_assoc, ← List.append_assoc]
      unfold blkB
      have hg : x.c.getD i 0 = x.c[i] := by simp [List.getD_eq_getElem?_getD, h2]
      rw [hg]
      simp only [List.append_assoc]
      rw [← List.append_assoc]
      exact mid_ext _ _ _ (by rw [List.length_append, hS]; have := hB i; unfold blkB at this; rw [this]) (le_length 4 _)
  · show (List.range M).map _ = x.s
    apply List.ext_getElem
    · simp [l3]
    · intro i h1 h2
      simp only [List.getElem_map, List.getElem_range]
      have hv := m3 _ (List.getElem_mem h2)
      refine num_at _ _ _ _ hv.1 (by rw [p2_24]; omega) ?_
      rw [hb, flat_split _ _ i (by omega)]
      unfold blkB
      have hg : x.s.getD i 0 = x.s[i] := by simp [List.getD_eq_getElem?_getD, h2]
      rw [hg]
      simp only [List.append_assoc]
      rw [← List.append_assoc, ← List.append_assoc]
      exact mid_ext _ _ _ (by rw [List.length_append, List.length_append, hS, le_length]; have := hB i; unfold blkB at this; rw [this]) (le_length 3 _)
  · show (List.range M).map _ = x.t
    apply List.ext_getElem
    · simp [l4]
    · intro i h1 h2
      simp only [List.getElem_map, List.getElem_range]
      have hv := m4 _ (List.getElem_mem h2)
      refine num_at _ _ _ _ hv.1 (by rw [p2_24]; omega) ?_
      rw [hb, flat_split _ _ i (by omega)]
      unfold blkB
      have hg : x.t.getD i 0 = x.t[i] := by simp [List.getD_eq_getElem?_getD, h2]
      rw [hg]
      simp only [List.append_assoc]
      rw [← List.append_assoc, ← List.append_assoc, ← List.append_assoc]
      exact mid_ext _ _ _ (by rw [List.length_append, List.length_append, List.length_append, hS, le_length, le_length]; have := hB i; unfold blkB at this; rw [this]) (le_length 3 _)
theorem fit_len {M N : Nat} {x : Sn} (h : FitS M N x) : x.f.length = N ∧ x.c.length = M := by
  obtain ⟨⟨l1, _⟩, ⟨l2, _⟩, _⟩ := h
  omega
/-- what fits is put on pages that are such pages, and taken off them as it was -/
theorem pages_ok (x : Sn) (M N K Y : Nat) (h : FitS M N x) (hK : 6 * N + 10 * M ≤ K * Y) : PagesOk (pgsN x K Y) M N K Y ∧ ofText (catP (pgsN x K Y)) M N = x := by
  obtain ⟨l1, l2⟩ := fit_len h
  have hz : (textN x K Y).size = K * Y := textN_size x K Y (by rw [l1, l2]; exact hK)
  have hc : catP (pgsN x K Y) = textN x K Y := by
    rw [pgsN_cut, cat_cut _ _ _ (by omega)]
    apply bs_inj
    rw [bs_ext, List.drop_zero, Nat.sub_zero, List.take_of_length_le (by rw [bs_length]; omega)]
  refine ⟨⟨by simp [pgsN], fun p hp => ?_, fun i h1 h2 => ?_⟩, by rw [hc]; exact of_text x M N K Y h⟩
  · rw [pgsN_cut] at hp
    unfold cutT at hp
    rw [List.mem_map] at hp
    obtain ⟨i, hi, rfl⟩ := hp
    rw [List.mem_range] at hi
    have h3 : (i + 1) * Y ≤ K * Y := Nat.mul_le_mul_right Y hi
    rw [Nat.add_mul, Nat.one_mul] at h3
    rw [ByteArray.size_extract]; omega
  · rw [hc]
    have hb := bs_text x K Y
    unfold byteT
    have e : (textN x K Y).data.toList = bs (textN x K Y) := rfl
    have hl : (bytesN x).length ≤ i := by rw [bytesN_len, l1, l2]; exact h1
    have e2 : secB x.f ++ ((List.range x.c.length).flatMap (blkB x) ++ List.replicate (K * Y - (bytesN x).length) (0 : UInt8)) = bytesN x ++ List.replicate (K * Y - (bytesN x).length) 0 := by unfold bytesN; rw [List.append_assoc]
    rw [e, hb, e2, List.getD_eq_getElem?_getD, List.getElem?_append_right hl, List.getElem?_replicate]
    split <;> rfl

/-- what is taken off such pages fits, and is put on the same ones -/
theorem num_fit (s : ByteArray) (i n : Nat) (h : i + n ≤ s.size) : 0 ≤ numAt s i n ∧ numAt s i n < p2 (8 * n) := by
  unfold numAt
  have hz : (s.extract i (i + n)).size = n := by rw [ByteArray.size_extract]; omega
  have hb := numTo_bd (s.extract i (i + n)) (s.extract i (i + n)).size (Nat.le_refl _)
  rw [hz] at hb
  unfold numS
  rw [hz]
  exact hb
theorem le_at (s : ByteArray) (i n : Nat) (h : i + n ≤ s.size) : le (numAt s i n) n = ((bs s).drop i).take n := by
  have hz : (s.extract i (i + n)).size = n := by rw [ByteArray.size_extract]; omega
  have h2 := leS_numS (s.extract i (i + n))
  rw [hz] at h2
  have h3 := congrArg bs h2
  rw [bs_ext, show i + n - i = n by omega] at h3
  exact h3
theorem flat_pieces {α : Type} (L : List α) (o m : Nat) : ∀ n, o + m * n ≤ L.length → (List.range n).flatMap (fun i => (L.drop (o + m * i)).take m) = (L.drop o).take (m * n)
  | 0, _ => by simp
  | n + 1, h => by
    have h2 : m * (n + 1) = m * n + m := by rw [Nat.mul_add, Nat.mul_one]
    rw [List.range_succ, List.flatMap_append, flat_pieces L o m n (by omega), List.flatMap_cons, List.flatMap_nil, List.append_nil, h2, List.take_add, List.drop_drop]
theorem flat_cong {α : Type} (f g : Nat → List α) : ∀ n, (∀ i, i < n → f i = g i) → (List.range n).flatMap f = (List.range n).flatMap g
  | 0, _ => rfl
  | n + 1, h => by
    rw [List.range_succ, List.flatMap_append, List.flatMap_append, flat_cong f g n (fun i hi => h i (by omega))]
    simp [h n (by omega)]
theorem bytes_of_text (s : ByteArray) (M N : Nat) (hz : 6 * N + 10 * M ≤ s.size) : bytesN (ofText s M N) = (bs s).take (6 * N + 10 * M) := by
  have hl : (bs s).length = s.size := bs_length s
  unfold bytesN
  have e1 : secB (ofText s M N).f = (bs s).take (6 * N) := by
    rw [secB_range]
    have hlen : (ofText s M N).f.length = N := by simp [ofText]
    rw [hlen, flat_cong _ (fun i => ((bs s).drop (0 + 6 * i)).take 6) N fun i hi => ?_, flat_pieces _ 0 6 N (by omega), List.drop_zero]
    have hg : (ofText s M N).f.getD i 0 = numAt s (6 * i) 6 := by simp [ofText, List.getD_eq_getElem?_getD, hi]
    rw [hg, le_at s _ _ (by omega), Nat.zero_add]
  have e2 : (List.range (ofText s M N).c.length).flatMap (blkB (ofText s M N)) = ((bs s).drop (6 * N)).take (10 * M) := by
    have hlen : (ofText s M N).c.length = M := by simp [ofText]
    rw [hlen, flat_cong _ (fun i => ((bs s).drop (6 * N + 10 * i)).take 10) M fun i hi => ?_, flat_pieces _ (6 * N) 10 M (by omega)]
    unfold blkB
    have g1 : (ofText s M N).c.getD i 0 = numAt s (6 * N + 10 * i) 4 := by simp [ofText, List.getD_eq_getElem?_getD, hi]
    have g2 : (ofText s M N).s.getD i 0 = numAt s (6 * N + 10 * i + 4) 3 := by simp [ofText, List.getD_eq_getElem?_getD, hi]
    have g3 : (ofText s M N).t.getD i 0 = numAt s (6 * N + 10 * i + 7) 3 := by simp [ofText, List.getD_eq_getElem?_getD, hi]
    rw [g1, g2, g3, le_at s _ _ (by omega), le_at s _ _ (by omega), le_at s _ _ (by omega)]
    have t1 : ((bs s).drop (6 * N + 10 * i)).take 10 = ((bs s).drop (6 * N + 10 * i)).take 4 ++ (((bs s).drop (6 * N + 10 * i)).drop 4).take 6 := List.take_add (i := 4) (j := 6)
    have t2 : (((bs s).drop (6 * N + 10 * i)).drop 4).take 6 = (((bs s).drop (6 * N + 10 * i)).drop 4).take 3 ++ ((((bs s).drop (6 * N + 10 * i)).drop 4).drop 3).take 3 := List.take_add (i := 3) (j := 3)
    rw [t1, t2, List.drop_drop, List.drop_drop]
  rw [e1, e2, ← List.take_add]
theorem fit_text (s : ByteArray) (M N : Nat) (hz : 6 * N + 10 * M ≤ s.size) : FitS M N (ofText s M N) := by
  have hin : ∀ (f : Nat → Int) (n : Nat) (m : Int), (∀ i, i < n → 0 ≤ f i ∧ f i ≤ m) → InL ((List.range n).map f) n m := fun f n m hf => by
    refine ⟨by simp, fun v hv => ?_⟩
    rw [List.mem_map] at hv
    obtain ⟨i, hi, rfl⟩ := hv
    exact hf i (List.mem_range.1 hi)
  refine ⟨hin _ _ _ fun i hi => ?_, hin _ _ _ fun i hi => ?_, hin _ _ _ fun i hi => ?_, hin _ _ _ fun i hi => ?_⟩
  · have h := num_fit s (6 * i) 6 (by omega); rw [p2_48] at h; omega
  · have h := num_fit s (6 * N + 10 * i) 4 (by omega); rw [p2_32] at h; omega
  · have h := num_fit s (6 * N + 10 * i + 4) 3 (by omega); rw [p2_24] at h; omega
  · have h := num_fit s (6 * N + 10 * i + 7) 3 (by omega); rw [p2_24] at h; omega
theorem pages_back (ps : List ByteArray) (M N K Y : Nat) (h : PagesOk ps M N K Y) (hK : 6 * N + 10 * M ≤ K * Y) : FitS M N (ofText (catP ps) M N) ∧ pgsN (ofText (catP ps) M N) K Y = ps := by
  obtain ⟨h1, h2, h3⟩ := h
  have hz : (catP ps).size = K * Y := by
    have h4 := catP_size Y ps ps.length (Nat.le_refl _) fun j hj _ => h2 _ (List.getElem_mem hj)
    rw [List.take_of_length_le (Nat.le_refl _), h1] at h4
    exact h4
  refine ⟨fit_text _ M N (by omega), ?_⟩
  have ht : textN (ofText (catP ps) M N) K Y = catP ps := by
    rw [textN_eq]
    apply bs_inj
    show padN _ K Y = _
    unfold padN
    rw [bytes_of_text _ M N (by omega)]
    have hl : (bs (catP ps)).length = K * Y := by rw [bs_length]; exact hz
    apply List.ext_getElem
    · rw [List.length_append, List.length_take, List.length_replicate, hl]; omega
    · intro i g1 g2
      by_cases hi : i < 6 * N + 10 * M
      · rw [List.getElem_append_left (by rw [List.length_take]; omega), List.getElem_take]
      · rw [List.getElem_append_right (by rw [List.length_take]; omega), List.getElem_replicate]
        have h5 := h3 i (by omega) (by omega)
        unfold byteT at h5
        have e : (catP ps).data.toList.getD i 0 = (bs (catP ps))[i] := by
          show (bs (catP ps)).getD i 0 = _
          simp [List.getD_eq_getElem?_getD, g2]
        rw [e] at h5
        have h6 : (bs (catP ps))[i].toNat = 0 := by omega
        exact (UInt8.toNat_inj.1 (by rw [h6]; rfl)).symm
  rw [pgsN_cut, ht, ← h1]
  exact cut_cat Y ps h2
end Go.Proofs.YtidakannaephoaaDoor

/- As XInv2, where one operation (a store) comes behind all others: what holds of the world need hold up to it alone. -/
namespace Go.Proofs.YtidakannaephoaaDoor

section
variable {P : Program} {ops : Array Oper} {Q : Exit → Act → World → Prop} {md : Region.Mode}

theorem wpAny_facts3 {Base : Act → Prop} {C : World → Prop} {T : World → World → Prop} {R : Nat → Act → World → Prop} {S : Nat → List Tmp} (z : Nat) (hzb : z < ops.size)
    (hbefore : ∀ (i : Nat) (o : Oper), ops[i]? = some o → ∀ e ∈ o.after, Region.binds md e = true → e.on < i)
    (hslots : ∀ (i j : Nat) (o o' : Oper), ops[i]? = some o → ops[j]? = some o' → j ≠ i → (∀ e ∈ o'.after, Region.binds md e = true → e.on ≠ i) → ∀ d, o.dst = some d → d ∉ S j)
    (hext : ∀ j a a' w w', R j a w → (∀ s ∈ S j, a'.tmps.getD s undef = a.tmps.getD s undef) → T w w' → R j a' w')
    (hbase : ∀ (i : Nat) (o : Oper), ops[i]? = some o → ∀ a v, Base a → Base (a.put o.dst v))
    (hlast : ∀ o, ops[z]? = some o → ∀ i, i < ops.size → i ≠ z → ∃ e ∈ o.after, Region.binds md e = true ∧ e.on = i)
    (hops : ∀ (i : Nat) (o : Oper), ops[i]? = some o → ∀ a w, C w → Base a → (∀ e ∈ o.after, Region.binds md e = true → R e.on a w) →
      wpOp P ops Q i (fun a' w' => ∃ v, a' = a.put o.dst v ∧ (i ≠ z → C w') ∧ T w w' ∧ R i a' w') a w)
    (hfin : ∀ a w, Base a → (∀ i, i < ops.size → R i a w) → Q .normal a w) :
    ∀ (fuel : Nat) (listed : Array Bool) (a : Act) (w : World), still ops.size listed ≤ fuel → listed.size = ops.size → (listed.getD z true = false → C w) → Base a →
      (∀ i, i < ops.size → listed.getD i true = true → R i a w ∧ ∀ o, ops[i]? = some o → ∀ e ∈ o.after, Region.binds md e = true → listed.getD e.on true = true) → wpAny P md ops Q fuel listed a w := by
  have all : ∀ (listed : Array Bool), listed.size = ops.size → Region.ready md ops listed = [] → ∀ i, i < ops.size → listed.getD i true = true := by
    intro listed hsz hr i
    induction i using Nat.strongRecOn with
    | ind i ih =>
      intro hi
      cases hl : listed.getD i true with
      | true => rfl
      | false =>
        exfalso
        have hm : i ∈ Region.ready md ops listed := by
          rw [mem_ready]
          refine ⟨hl, ops[i], by simp [hi], fun e he hb => ?_⟩
          have hlt := hbefore i ops[i] (by simp [hi]) e he hb
          have h2 := ih e.on hlt (by omega)
          have h3 : e.on < listed.size := by omega
          simp [Array.getD, h3] at h2 ⊢
          exact h2
        rw [hr] at hm; cases hm
  intro fuel
  induction fuel with
  | zero =>
    intro listed a w hst hsz hC hB hR
    have hall := still_zero (Nat.le_zero.1 hst)
    have hr : Region.ready md ops listed = [] := by
      cases h : Region.ready md ops listed with
      | nil => rfl
      | cons i l =>
        have hm : i ∈ Region.ready md ops listed := by rw [h]; exact List.mem_cons_self
        obtain ⟨h1, o, ho, _⟩ := mem_ready.1 hm
        have hi : i < ops.size := (Array.getElem?_eq_some_iff.1 ho).1
        rw [hall i hi] at h1; cases h1
    exact ⟨hr, hfin a w hB fun i hi => (hR i hi (hall i hi)).1⟩
  | succ fuel ih =>
    intro listed a w hst hsz hC hB hR
    refine ⟨fun hr => hfin a w hB fun i hi => (hR i hi (all listed hsz hr i hi)).1, fun i hi => ?_⟩
    obtain ⟨h1, o, ho, hdeps⟩ := mem_ready.1 hi
    have hin : i < ops.size := (Array.getElem?_eq_some_iff.1 ho).1
    have hdl : ∀ e ∈ o.after, Region.binds md e = true → listed.getD e.on true = true := by
      intro e he hb
      have hlt := hbefore i o ho e he hb
      have h2 := hdeps e he hb
      have h3 : e.on < listed.size := by omega
      simp [Array.getD, h3] at h2 ⊢
      exact h2
    have hCw : C w := by
      apply hC
      by_cases e : i = z
      · rw [← e]; exact h1
      · cases hz : listed.getD z true with
        | false => rfl
        | true =>
          exfalso
          by_cases hzs : z < ops.size
          · obtain ⟨_, hdz⟩ := hR z hzs hz
            obtain ⟨e', he', hb', hon⟩ := hlast ops[z] (by simp [hzs]) i hin e
            have h4 := hdz ops[z] (by simp [hzs]) e' he' hb'
            rw [hon, h1] at h4; cases h4
          · exact hzs hzb
    refine wpOp_mono ?_ (hops i o ho a w hCw hB fun e he hb => (hR e.on (by have := hbefore i o ho e he hb; omega) (hdl e he hb)).1)
    rintro a' w' ⟨v, rfl, hC', hT, hRv⟩
    have hless := still_less hin h1
    have keep : ∀ k, listed.getD k true = true → (listed.setIfInBounds i true).getD k true = true := by
      intro k hk
      by_cases e : k = i
      · subst e
        have hs : k < listed.size := by omega
        simp [Array.getD, hs]
      · rw [getD_set_ne true (Ne.symm e)]; exact hk
    refine ih _ _ _ (by omega) (by simp [hsz]) (fun hz => hC' fun e => ?_) (hbase i o ho a v hB) fun j hj hlj => ?_
    · subst e
      have hs : i < listed.size := by omega
      simp [Array.getD, hs] at hz
    by_cases e : j = i
    · subst e
      refine ⟨hRv, fun o' ho' e he hb => keep _ ?_⟩
      obtain rfl : o' = o := Option.some.inj (ho'.symm.trans ho)
      exact hdl e he hb
    · rw [getD_set_ne true (Ne.symm e)] at hlj
      obtain ⟨hRj, hdj⟩ := hR j hj hlj
      refine ⟨hext j a _ w w' hRj (fun s hs => put_slot fun x hx hxs => ?_) hT, fun o' ho' e he hb => keep _ (hdj o' ho' e he hb)⟩
      subst hxs
      refine hslots i j o ops[j] ho (by simp [hj]) e (fun e' he' hb' hne => ?_) x hx hs
      have := hdj ops[j] (by simp [hj]) e' he' hb'
      rw [hne, h1] at this; cases this

/-- does operation z come behind all others? -/
def lastB (l : List Oper) (z : Nat) : Bool := match l[z]? with
  | none => false
  | some o => (List.range l.length).all fun i => i == z || o.after.any fun e => Region.binds .any e && e.on == i
/-- .. where operations may be guarded: an operation that is not wanted leaves its slot undefined -/
theorem wp_region_list4 {id : Nat} {l : List Oper} {a : Act} {w : World} (z : Nat) (S : List (List Tmp)) (Base : Act → Prop) (C : World → Prop) (T : World → World → Prop) (R : Nat → Act → World → Prop) (hm : P.follows .mixedOrders = true)
    (hzl : z < l.length) (hzB : lastB l z = true) (hpl : planB l S = true) (hext : ∀ j a a' w w', R j a w → (∀ s ∈ S.getD j [], a'.tmps.getD s undef = a.tmps.getD s undef) → T w w' → R j a' w')
    (hbase : AllFrom (fun _ o => ∀ a v, Base a → Base (a.put o.dst v)) 0 l) (hC : C { w with drawn := w.drawn + 1 }) (hB : Base a)
    (hops : AllFrom (fun i o => ∀ a w, C w → Base a → (∀ e ∈ o.after, Region.binds .any e = true → R e.on a w) →
      if Region.wanted o (yielded l.toArray a.tmps) = true then o.wp P a w (Leaves (fun w' => i ≠ z → C w') T R i o a w) Q
      else Leaves (fun w' => i ≠ z → C w') T R i o a w (a.put o.dst undef) w) 0 l)
    (hfin : ∀ a w, Base a → (∀ i, i < l.length → R i a w) → Q .normal a w) : (Code.region id l.toArray true).wp P Q a w := by
  have hp := List.all_eq_true.1 hpl
  refine wp_region_any hm (wpAny_facts3 z (by simpa using hzl) (S := fun j => S.getD j []) (Base := Base) (C := C) (T := T) (R := R) ?_ ?_ hext hbase.all ?_
    (fun i o ho a w h1 h2 h3 => ?_)
    (fun a w h2 h3 => hfin a w h2 fun i hi => h3 i (by simpa using hi)) _ _ _ _ ?_ (by simp) (fun _ => hC) hB ?_)
  · intro i o ho e he hb
    have ho' : l[i]? = some o := by simpa using ho
    have h1 := hp i (List.mem_range.2 (List.getElem?_eq_some_iff.1 ho').1)
    simp only [ho', Bool.and_eq_true] at h1
    have h2 := (Array.all_eq_true_iff_forall_mem.1 h1.1) e he
    simpa [hb] using h2
  · intro i j o o' ho ho' hne hno d hd
    have hi : l[i]? = some o := by simpa using ho
    have hj : l[j]? = some o' := by simpa using ho'
    have h1 := hp i (List.mem_range.2 (List.getElem?_eq_some_iff.1 hi).1)
    simp only [hi, hd, Bool.and_eq_true] at h1
    have h2 := List.all_eq_true.1 h1.2 j (List.mem_range.2 (List.getElem?_eq_some_iff.1 hj).1)
    simp only [hj, Bool.or_eq_true, beq_iff_eq] at h2
    rcases h2 with h2 | h2 | h2
    · exact absurd h2 hne
    · obtain ⟨k, hk, hb⟩ := Array.any_eq_true.1 h2
      obtain ⟨e, he⟩ : ∃ e, e = o'.after[k] := ⟨_, rfl⟩
      rw [← he] at hb
      have he : e ∈ o'.after := by rw [he]; exact Array.getElem_mem hk
      simp only [Bool.and_eq_true, beq_iff_eq] at hb
      exact absurd hb.2 (hno e he hb.1)
    · intro hm
      simp at h2
      exact h2 hm
  · intro o ho i hi hne
    have ho' : l[z]? = some o := by simpa using ho
    have hi' : i < l.length := by simpa using hi
    unfold lastB at hzB
    rw [ho'] at hzB
    have h1 := List.all_eq_true.1 hzB i (List.mem_range.2 hi')
    simp only [Bool.or_eq_true, beq_iff_eq] at h1
    rcases h1 with h1 | h1
    · exact absurd h1 hne
    · obtain ⟨k, hk, hb⟩ := Array.any_eq_true.1 h1
      simp only [Bool.and_eq_true, beq_iff_eq] at hb
      exact ⟨o.after[k], Array.getElem_mem hk, hb.1, hb.2⟩
  · have h4 := hops.all i o ho a w h1 h2 h3
    unfold wpOp
    simp only [ho]
    by_cases hw : Region.wanted o (yielded l.toArray a.tmps) = true
    · rw [if_pos hw] at h4 ⊢
      exact Or.inl h4
    · rw [if_neg hw] at h4 ⊢
      exact h4
  · unfold still
    exact Nat.le_trans (List.length_filter_le _ _) (by simp)
  · intro i hi h
    have hi' : i < l.length := by simpa using hi
    simp [Array.getD] at h
    omega

end
end Go.Proofs.YtidakannaephoaaDoor

/- Parameters that are slices or arrays of numbers: opened; shut again by Below.trod (an argument reads behind the call as it did). -/
namespace Go.Proofs.YtidakannaephoaaDoor
open Go.RowKit Go.ChangeShapes Go.WideShapes Go.ChangeAt

theorem add_block (a : Addr) (i : Nat) : (a.add i).block = a.block := by unfold Addr.add; split <;> rfl

section
variable {H : Type} {enc : TypeId × Value → H} {P : Program} {w : World}
end

end Go.Proofs.YtidakannaephoaaDoor

/- Parameters that are structs of numbers alone: opened (shut by Below.trod: XArgs). -/
namespace Go.Proofs.YtidakannaephoaaDoor
set_option maxRecDepth 100000
open Go.RowKit Go.ChangeShapes Go.WideShapes Go.ChangeAt

/-- a cell's number -/
def numIn : Value → Int
  | .int _ a => a
  | _ => 0
theorem list6 {α : Type} {l : List α} (h : l.length = 6) : ∃ a b c d e f, l = [a, b, c, d, e, f] := by
  match l, h with
  | [a, b, c, d, e, f], _ => exact ⟨a, b, c, d, e, f, rfl⟩
section
variable {H : Type} {enc : TypeId × Value → H} {P : Program} {w : World}
theorem open_intsN {base : Nat} {sp : Nat → Bool} {held : Bool} {r : Go.Reach} {b0 : Nat} {t : TypeId} {fs : Array Field} {v : Value} {d : DataW H} {ps : List MemPlace} (hs : P.underlying t = some (.struct fs)) (hone : Deep.oneCellFields P fs = true)
    (hint : ∀ (i : Nat) f, fs[i]? = some f → P.underlying f.type = some (.int .i64)) (hC : P.cellsOf t = fs.size)
    (hval : Value.okWide P w r b0 t v) (hd : DataW.Trod enc P w base sp held t v d ps) : ∃ zs : List Int, zs.length = fs.size ∧ v = .agg (zs.map (Value.int .i64)).toArray := by
  obtain ⟨cs, rfl, hsz⟩ := okWide_struct hs hval
  obtain ⟨fuel, hf⟩ := hd
  obtain ⟨xs, n, _, _, hl, hlen, hx⟩ := DataW.trod_struct hs hf
  have hcs : cs.size = fs.size := hsz.trans hC
  refine ⟨cs.toList.map numIn, by simp [hcs], ?_⟩
  congr 1
  apply Array.ext_getElem?
  intro i
  by_cases hi : i < cs.size
  · have hif : i < fs.size := by omega
    have hfi : fs[i]? = some fs[i] := by simp [hif]
    have h1 := hx i fs[i] hfi
    obtain ⟨o0, k0⟩ := Deep.hone_of hone i fs[i] hfi
    have hxi : i < xs.length := by omega
    rw [o0, k0, List.getElem?_eq_getElem hxi] at h1
    obtain ⟨a, ha, _⟩ := DataW.trod_int (hint i fs[i] hfi) h1
    have hc : cs[i]? = some (.int .i64 a) := by
      have h2 : (List.take 1 (List.drop i (Value.agg cs).cells.toList))[0]? = some (.int .i64 a) := by rw [ha]; rfl
      rw [List.getElem?_take_of_lt (by decide), List.getElem?_drop] at h2
      simpa [Value.cells] using h2
    rw [hc]
    simp [hc, numIn]
  · rw [Array.getElem?_eq_none (by omega), Array.getElem?_eq_none (by simp; omega)]
end

end Go.Proofs.YtidakannaephoaaDoor

/- Parameters that are what is durable (a struct of four slices of numbers): opened; shut again by Below.trod. -/
namespace Go.Proofs.YtidakannaephoaaDoor
set_option maxRecDepth 100000
open Go.RowKit Go.ChangeShapes Go.WideShapes Go.ChangeAt

theorem open_iv {H : Type} {enc : TypeId × Value → H} {P : Program} {w : World} {base : Nat} {t e : TypeId} {fuel : Nat} {cs : List Value} {x : DataW H × List MemPlace} (ht : P.underlying t = some (.slice e)) (he : P.underlying e = some (.int .i64)) (hc : P.cellsOf e = 1)
    (hf : DataW.trod enc P w base (fun _ => true) true fuel t cs = some x) : ∃ (v : Value) (l : List Int), cs = [v] ∧ IvAt w v l := by
  rcases open_ints ht he hc hf with ⟨hcs, _⟩ | ⟨a, len', cap', zs, hcs, _, hl, hm, hz, _, hcell, hwz⟩
  · exact ⟨_, [], hcs, none, 0, rfl, ⟨Nat.zero_le _, Nat.zero_le _⟩, IsAt.nil _ _⟩
  · simp only [if_true] at hz
    have hlen : (zs.take len').length = len' := by rw [List.length_take]; omega
    refine ⟨_, zs.take len', hcs, some a, cap', by rw [hlen], ⟨by omega, by omega⟩, fun hne => ?_⟩
    have h0 : 0 < len' := by
      rcases Nat.eq_zero_or_pos len' with h | h
      · subst h; simp at hne
      · exact h
    obtain ⟨b, off, spot⟩ := a
    have h00 := hcell 0 (by omega)
    have hspot : spot = none := by simpa [Addr.add] using World.cell?_spot h00
    subst hspot
    refine ⟨b, off, rfl, ?_, fun i hi => ?_⟩
    · have := cell_lt h00
      rwa [add_block] at this
    · have hi2 : i < len' := by omega
      have h := hcell i (by omega)
      rw [Addr.add_lit] at h
      rw [h]
      simp [List.getD, show i < zs.length by omega]

theorem open_state {H : Type} {enc : TypeId × Value → H} {w : World} {base : Nat} {r : Go.Reach} {b0 : Nat} {v : Value} {d : DataW H} {ps : List MemPlace}
    (hval : Value.okWide Tryd.prog w r b0 26 v) (hd : DataW.Trod enc Tryd.prog w base (fun _ => true) true 26 v d ps) : ∃ (A : Array Value) (x : Sn), v = .agg A ∧ SnAt w A x := by
  have hs := Tryd.underlying26
  obtain ⟨cs, rfl, hsz⟩ := okWide_struct hs hval
  obtain ⟨fuel, hf⟩ := hd
  obtain ⟨xs, n, _, _, hl, hlen, hx⟩ := DataW.trod_struct hs hf
  have hcs : cs.size = 4 := hsz.trans (by kernel_rfl)
  have hl4 : xs.length = 4 := hlen
  have hc : Tryd.prog.cellsOf 24 = 1 := by kernel_rfl
  obtain ⟨c0, c1, c2, c3, hcl⟩ : ∃ a b c d, cs.toList = [a, b, c, d] := by
    have hll : cs.toList.length = 4 := by rw [Array.length_toList]; exact hcs
    generalize cs.toList = l at hll
    match l, hll with
    | [a, b, c, d], _ => exact ⟨a, b, c, d, rfl⟩
  have hcells : (Value.agg cs).cells.toList = [c0, c1, c2, c3] := hcl
  rw [hcells] at hx
  have e0 := hx 0 _ rfl
  have e1 := hx 1 _ rfl
  have e2 := hx 2 _ rfl
  have e3 := hx 3 _ rfl
  change DataW.trod _ _ _ _ _ _ _ 24 (List.take (Tryd.prog.cellsOf 24) (List.drop 0 [c0, c1, c2, c3])) = _ at e0
  change DataW.trod _ _ _ _ _ _ _ 24 (List.take (Tryd.prog.cellsOf 24) (List.drop 1 [c0, c1, c2, c3])) = _ at e1
  change DataW.trod _ _ _ _ _ _ _ 24 (List.take (Tryd.prog.cellsOf 24) (List.drop 2 [c0, c1, c2, c3])) = _ at e2
  change DataW.trod _ _ _ _ _ _ _ 24 (List.take (Tryd.prog.cellsOf 24) (List.drop 3 [c0, c1, c2, c3])) = _ at e3
  rw [hc] at e0 e1 e2 e3
  rw [List.getElem?_eq_getElem (by omega)] at e0 e1 e2 e3
  obtain ⟨v0, l0, h0, i0⟩ := open_iv Tryd.underlying24 Tryd.underlying3 (by kernel_rfl) e0
  obtain ⟨v1, l1, h1, i1⟩ := open_iv Tryd.underlying24 Tryd.underlying3 (by kernel_rfl) e1
  obtain ⟨v2, l2, h2, i2⟩ := open_iv Tryd.underlying24 Tryd.underlying3 (by kernel_rfl) e2
  obtain ⟨v3, l3, h3, i3⟩ := open_iv Tryd.underlying24 Tryd.underlying3 (by kernel_rfl) e3
  simp at h0 h1 h2 h3
  subst h0 h1 h2 h3
  refine ⟨cs, ⟨l0, l1, l2, l3⟩, rfl, c0, c1, c2, c3, ?_, i0, i1, i2, i3⟩
  apply Array.toList_inj.1
  exact hcl

end Go.Proofs.YtidakannaephoaaDoor

/- Package sheet, walked: take. -/
namespace Go.Proofs.YtidakannaephoaaDoor
set_option maxRecDepth 100000
open Go.RowKit

end Go.Proofs.YtidakannaephoaaDoor

/- Package sheet, walked: Unpack. -/
namespace Go.Proofs.YtidakannaephoaaDoor
set_option maxRecDepth 100000
open Go.RowKit

end Go.Proofs.YtidakannaephoaaDoor

/- Package sheet, walked: the iterator of Each. -/
namespace Go.Proofs.YtidakannaephoaaDoor
set_option maxRecDepth 100000
open Go.RowKit
attribute [local go_sem] Oper.semAt_some

/-- cells from n0 on lie as they lay -/
def KeepC (n0 : Nat) (W W' : World) : Prop := ∀ k cs t fr, n0 ≤ k → W.heap[k]? = some (.cells cs t fr) → W'.heap[k]? = some (.cells cs t fr)
/-- what the iterator asks of a round -/
structure KpE (bs : List Nat) (n0 : Nat) (W W' : World) : Prop where
  old : KeepB bs W W'
  new : KeepC n0 W W'
  size : W.heap.size ≤ W'.heap.size
theorem KpE.refl (bs : List Nat) (n0 : Nat) (W : World) : KpE bs n0 W W := ⟨KeepB.refl _ _, fun _ _ _ _ _ h => h, Nat.le_refl _⟩
theorem KpE.trans {bs : List Nat} {n0 : Nat} {A B C : World} (h : KpE bs n0 A B) (k : KpE bs n0 B C) : KpE bs n0 A C :=
  ⟨h.old.trans k.old, fun i cs t fr hi hc => k.new i cs t fr hi (h.new i cs t fr hi hc), Nat.le_trans h.size k.size⟩
theorem KpE.set {bs : List Nat} {n0 : Nat} {W : World} {g : Nat} (i : Nat) (v : Value) (hg : g < n0) (hb : g ∉ bs) : KpE bs n0 W (W.setCell ⟨g, i, none⟩ v) :=
  ⟨KeepB.set i v hb, fun k _ _ _ hk hc => (Below.heap_setCell _ _ _ _ (by show k ≠ g; omega)).trans hc, by rw [World.size_setCell]; exact Nat.le_refl _⟩
/-- a captured list of texts: the box, and the row that it names -/
def CapS (W : World) (B g : Nat) (l : List ByteArray) : Prop := ∃ (a : Option Addr) (cap : Nat), W.cell? ⟨B, 0, none⟩ = some (.slice a l.length cap) ∧ (l ≠ [] → a = some ⟨g, 0, none⟩) ∧ ∀ k (hk : k < l.length), W.cell? ⟨g, k, none⟩ = some (.string l[k])
theorem CapS.keep {W W' : World} {B g : Nat} {l : List ByteArray} (h : CapS W B g l) (hb : KeepB [B, g] W W') : CapS W' B g l := by
  obtain ⟨a, cap, h1, h2, h3⟩ := h
  exact ⟨a, cap, (hb.cell (by simp)).trans h1, h2, fun k hk => (hb.cell (by simp)).trans (h3 k hk)⟩
end Go.Proofs.YtidakannaephoaaDoor

/- Package sheet, walked: Each. -/
namespace Go.Proofs.YtidakannaephoaaDoor
set_option maxRecDepth 100000
open Go.RowKit

/-- a slice of texts, wherever it lies -/
def TxAt (w : World) (oa : Option Addr) (l : List ByteArray) : Prop := l ≠ [] → ∃ b off, oa = some ⟨b, off, none⟩ ∧ b < w.heap.size ∧ ∀ i (hi : i < l.length), w.cell? ⟨b, off + i, none⟩ = some (.string l[i])
theorem TxAt.below {w w' : World} {oa : Option Addr} {l : List ByteArray} (h : TxAt w oa l) (hb : Below w.heap.size w w') : TxAt w' oa l := by
  intro hl
  obtain ⟨b, off, ho, hlt, hc⟩ := h hl
  exact ⟨b, off, ho, Nat.lt_of_lt_of_le hlt hb.size, fun i hi => by rw [World.cell?_of_block (w := w) (hb.block b hlt)]; exact hc i hi⟩

end Go.Proofs.YtidakannaephoaaDoor

/- Parameters that are slices of texts: opened; shut again by Below.trod. -/
namespace Go.Proofs.YtidakannaephoaaDoor
set_option maxRecDepth 100000
open Go.RowKit Go.ChangeShapes Go.WideShapes Go.ChangeAt

theorem open_txs {H : Type} {enc : TypeId × Value → H} {w : World} {base : Nat} {r : Go.Reach} {b0 : Nat} {v : Value} {d : DataW H} {ps : List MemPlace}
    (hval : Value.okWide Tryd.prog w r b0 27 v) (hd : DataW.Trod enc Tryd.prog w base (fun _ => true) true 27 v d ps) :
    ∃ (oa : Option Addr) (cap : Nat) (l : List ByteArray), v = .slice oa l.length cap ∧ ((l.length ≤ cap ∧ cap ≤ maxLen) ∧ ∀ p ∈ l, p.size ≤ maxLen) ∧ TxAt w oa l := by
  obtain ⟨a0, len, cap, rfl⟩ := okWide_slice Tryd.underlying27 hval
  obtain ⟨fuel, hf⟩ := hd
  rcases Deep.open_strs Tryd.underlying27 Tryd.underlying9 (by kernel_rfl) hf with ⟨hcs, _⟩ | ⟨a, len', cap', m, S, hcs, _, hl, hm, hmm, _, hx⟩
  · simp [Value.cells] at hcs
    obtain ⟨rfl, rfl, rfl⟩ := hcs
    exact ⟨none, 0, [], rfl, ⟨⟨Nat.zero_le _, Nat.zero_le _⟩, fun p hp => absurd hp List.not_mem_nil⟩, fun h => absurd rfl h⟩
  · simp [Value.cells] at hcs
    obtain ⟨rfl, rfl, rfl⟩ := hcs
    simp only [if_true] at hmm
    refine ⟨some a, cap, (List.range len).map S, by simp, ⟨⟨by simp; omega, by omega⟩, fun p hp => ?_⟩, fun hne => ?_⟩
    · rw [List.mem_map] at hp
      obtain ⟨i, hi, rfl⟩ := hp
      rw [List.mem_range] at hi
      exact (hx i (by omega)).2
    · have hlen : 0 < len := by
        rcases Nat.eq_zero_or_pos len with h | h
        · subst h; simp at hne
        · exact h
      obtain ⟨b, off, spot⟩ := a
      have h00 := (hx 0 (by omega)).1
      have hspot : spot = none := by simpa [Addr.add] using World.cell?_spot h00
      subst hspot
      refine ⟨b, off, rfl, ?_, fun i hi => ?_⟩
      · have := cell_lt h00
        rwa [add_block] at this
      · have hi2 : i < len := by simpa using hi
        have h := (hx i (by omega)).1
        rw [Addr.add_lit] at h
        rw [h]
        simp

end Go.Proofs.YtidakannaephoaaDoor
