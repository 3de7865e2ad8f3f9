/- Package sheet, walked: Pack. -/
import Derived.Test.YtklbmlnghindjaaDoorShC5
import Derived.RangeFuncBox
import Derived.OwnWalkIn
namespace Go.Proofs.YtklbmlnghindjaaDoor
set_option maxRecDepth 100000
open Go.RowKit
attribute [local go_sem] Oper.semAt_some

theorem piece_at {W : World} {oa : Option Addr} {l : List Rc} (h : XsAt W oa l) {b off : Nat} (ho : l.length = 0 ∨ oa = some ⟨b, off, none⟩) (m x : Nat) : XsAt W (some ⟨b, off + x * m * 3, none⟩) (partX m l x) := by
  intro hne
  have hl : l ≠ [] := fun e => hne (by rw [e]; unfold partX; simp)
  obtain ⟨b', off', rfl, hlt, hc⟩ := h hl
  rcases ho with ho | ho
  · exact absurd (List.eq_nil_of_length_eq_zero ho) hl
  · cases ho
    refine ⟨b, off + x * m * 3, rfl, hlt, fun i hi => ?_⟩
    obtain ⟨hx, he⟩ := partX_at m l x i hi
    rw [he, show off + x * m * 3 + i * 3 = off + (x * m + i) * 3 by rw [Nat.add_mul]; omega]
    exact hc _ hx
theorem partX_len (m : Nat) (l : List Rc) (x : Nat) : (partX m l x).length = min m (l.length - x * m) := by unfold partX; rw [List.length_take, List.length_drop]
theorem partX_sub {m : Nat} {l : List Rc} {x : Nat} (h : ∀ y ∈ l, MayX y) : ∀ y ∈ partX m l x, MayX y := fun y hy => h y (List.mem_of_mem_drop (List.mem_of_mem_take hy))
theorem partX_all {m : Nat} (hm : 0 < m) {l : List Rc} (h : ∀ x, x < (l.length + m - 1) / m → ∀ y ∈ partX m l x, MayX y) : ∀ y ∈ l, MayX y := by
  intro y hy
  obtain ⟨j, hj, rfl⟩ := List.getElem_of_mem hy
  have hd : j / m * m + j % m = j := by rw [Nat.mul_comm]; exact Nat.div_add_mod j m
  have hmod : j % m < m := Nat.mod_lt _ hm
  have hx : j / m < (l.length + m - 1) / m := (pieces_lt hm).2 (by omega)
  have hlt : j % m < (partX m l (j / m)).length := by rw [partX_len]; omega
  have := h _ hx _ (List.getElem_mem hlt)
  obtain ⟨h1, h2⟩ := partX_at m l (j / m) (j % m) hlt
  rw [h2] at this
  simpa only [hd] using this

/-- what a function of two results gives, each in a block of its own -/
theorem results_cells_twoX {P : Program} {fn : Func} {p q : Tmp} {ty ty2 : TypeId} (h : fn.results = #[.cell p ty, .cell q ty2]) (tmps : Array Value) (w : World) (g g2 : Nat) (u v : Value)
    (hp : tmps.getD p undef = .pointer (some ⟨g, 0, none⟩)) (hc1 : w.cell? ⟨g, 0, none⟩ = some u) (ha1 : ∀ w, (isAgg ty).run P w = .ok false w)
    (hq : tmps.getD q undef = .pointer (some ⟨g2, 0, none⟩)) (hc : w.cell? ⟨g2, 0, none⟩ = some v) (ha : ∀ w, (isAgg ty2).run P w = .ok false w) :
    (results fn tmps).run P w = .ok (.tuple #[u, v]) w := by
  have hp' : tmps[p]?.getD undef = .pointer (some ⟨g, 0, none⟩) := by simpa using hp
  have hq' : tmps[q]?.getD undef = .pointer (some ⟨g2, 0, none⟩) := by simpa using hq
  have h1 : Sem.run P (loadVar ty ⟨g, 0, none⟩) w = .ok u w := by
    simp [loadVar, ha1]
    rw [hc1]
  have h2 : Sem.run P (loadVar ty2 ⟨g2, 0, none⟩) w = .ok v w := by
    simp [loadVar, ha]
    rw [hc]
  simp [results, h, hp', hq', asAddr, h1, h2]

/-- the pages of these pieces -/
def pgsX (N m : Nat) (l : List Rc) (pre : List Nat) : List Value := strV (pre.map fun p => pageX N (partX m l p))
theorem pgsX_snoc (N m : Nat) (l : List Rc) (pre : List Nat) (x : Nat) : pgsX N m l (pre ++ [x]) = pgsX N m l pre ++ [.string (pageX N (partX m l x))] := by unfold pgsX strV; simp
/-- the blocks of a call of Pack while its loop runs -/
structure PkS (w : World) (b N m : Nat) (l : List Rc) (pre : List Nat) (W : World) : Prop where
  n : Blk W b #[.int .i64 N] 3
  r1 : Blk W (b + 1) #[.slice none 0 0] 22
  r2 : Blk W (b + 1 + 1) #[.int .i64 0] 26
  out : ∃ u, Boxed W (b + 1 + 1 + 1) 22 u ∧ W.ownsRow (b + 6) 9 1 u pre.length (pgsX N m l pre) ∧ True
  below : Below w.heap.size w W
  size : b + 6 ≤ W.heap.size
theorem boxed_afterX {W W' : World} {B : Nat} {t : TypeId} {v : Value} (h : Boxed W B t v) (hb : Below W.heap.size W W') : Boxed W' B t v := (hb.block B h.lt).trans h
theorem ownsRow_monoX {W : World} {B B' z : Nat} {e : TypeId} {v : Value} {n : Nat} {xs : List Value} (h : W.ownsRow B e z v n xs) (hb : B' ≤ B) : W.ownsRow B' e z v n xs := by
  refine ⟨h.1, ?_⟩
  rcases h.2 with ⟨rfl, h0⟩ | ⟨g, cap, cur, rfl, hbg, hg, h1⟩
  · exact .inl ⟨rfl, h0⟩
  · exact .inr ⟨g, cap, cur, rfl, by omega, hg, h1⟩
theorem PkS.after {w W W' : World} {b N m : Nat} {l : List Rc} {pre : List Nat} (h : PkS w b N m l pre W) (hb : Below W.heap.size W W') : PkS w b N m l pre W' := by
  obtain ⟨u, h1, h2, _⟩ := h.out
  exact ⟨h.n.after hb, h.r1.after hb, h.r2.after hb, ⟨u, boxed_afterX h1 hb, ownsRow_afterX h2 hb, trivial⟩, h.below.trans (hb.mono h.below.size), Nat.le_trans h.size hb.size⟩
theorem PkS.from {w : World} {b N m : Nat} {l : List Rc} (hw : w.heap.size ≤ b + 6) : OwnFrom (b + 6) (fun pre W => PkS w b N m l pre W) := by
  intro pre X Y row h hg hr
  exact ⟨blk_kept h.n hg (fun r e => (hr r e).2), blk_kept h.r1 hg (fun r e => (hr r e).2), blk_kept h.r2 hg (fun r e => (hr r e).2),
    holdsRow_own (b + 6) (b + 1 + 1 + 1) _ _ 1 List.length (pgsX N m l) (fun _ _ => True) pre X Y row h.out hg (fun r e => (hr r e).2), h.below.grown hg h.below.size (fun r e => by have := (hr r e).1; omega), Nat.le_trans h.size hg.size⟩
/-- the world ahead of the loop -/
theorem pk_start (w : World) (N m : Nat) (l : List Rc) (oa : Option Addr) (len cap : Nat) : ∃ W0, (((((w.alloc (.cells #[.int .i64 N] 3)).alloc (.cells #[.slice none 0 0] 22)).alloc (.cells #[.int .i64 0] 26)).alloc (.cells #[.slice none 0 0] 22)).alloc (.cells #[.slice oa len cap] 24)).alloc (.cells #[.int .i64 m] 3) = W0 ∧
    PkS w w.heap.size N m l [] W0 ∧ W0.heap.size = w.heap.size + 6 ∧ Blk W0 (w.heap.size + 1 + 1 + 1 + 1) #[.slice oa len cap] 24 ∧ Blk W0 (w.heap.size + 1 + 1 + 1 + 1 + 1) #[.int .i64 m] 3 := by
  obtain ⟨w1, h1⟩ : ∃ w1, w.alloc (.cells #[.int .i64 N] 3) = w1 := ⟨_, rfl⟩
  obtain ⟨w2, h2⟩ : ∃ w2, w1.alloc (.cells #[.slice none 0 0] 22) = w2 := ⟨_, rfl⟩
  obtain ⟨w3, h3⟩ : ∃ w3, w2.alloc (.cells #[.int .i64 0] 26) = w3 := ⟨_, rfl⟩
  obtain ⟨w4, h4⟩ : ∃ w4, w3.alloc (.cells #[.slice none 0 0] 22) = w4 := ⟨_, rfl⟩
  obtain ⟨w5, h5⟩ : ∃ w5, w4.alloc (.cells #[.slice oa len cap] 24) = w5 := ⟨_, rfl⟩
  obtain ⟨w6, h6⟩ : ∃ w6, w5.alloc (.cells #[.int .i64 m] 3) = w6 := ⟨_, rfl⟩
  have s1 : w1.heap.size = w.heap.size + 1 := by rw [← h1]; simp
  have s2 : w2.heap.size = w.heap.size + 2 := by rw [← h2]; simp [s1]
  have s3 : w3.heap.size = w.heap.size + 3 := by rw [← h3]; simp [s2]
  have s4 : w4.heap.size = w.heap.size + 4 := by rw [← h4]; simp [s3]
  have s5 : w5.heap.size = w.heap.size + 5 := by rw [← h5]; simp [s4]
  have s6 : w6.heap.size = w.heap.size + 6 := by rw [← h6]; simp [s5]
  have b12 : Below w1.heap.size w1 w2 := by rw [← h2]; exact (Below.refl _ _).alloc (Nat.le_refl _) _
  have b23 : Below w2.heap.size w2 w3 := by rw [← h3]; exact (Below.refl _ _).alloc (Nat.le_refl _) _
  have b34 : Below w3.heap.size w3 w4 := by rw [← h4]; exact (Below.refl _ _).alloc (Nat.le_refl _) _
  have b45 : Below w4.heap.size w4 w5 := by rw [← h5]; exact (Below.refl _ _).alloc (Nat.le_refl _) _
  have b56 : Below w5.heap.size w5 w6 := by rw [← h6]; exact (Below.refl _ _).alloc (Nat.le_refl _) _
  have b01 : Below w.heap.size w w1 := by rw [← h1]; exact (Below.refl _ _).alloc (Nat.le_refl _) _
  have b46 := b45.trans (b56.mono b45.size)
  have b36 := b34.trans (b46.mono b34.size)
  have b26 := b23.trans (b36.mono b23.size)
  have b16 := b12.trans (b26.mono b12.size)
  have k1 : Blk w1 w.heap.size #[.int .i64 N] 3 := by rw [← h1]; exact Blk.new _ _ _
  have k2 : Blk w2 (w.heap.size + 1) #[.slice none 0 0] 22 := by rw [← h2, ← s1]; exact Blk.new _ _ _
  have k3 : Blk w3 (w.heap.size + 1 + 1) #[.int .i64 0] 26 := by rw [← h3, show w.heap.size + 1 + 1 = w2.heap.size by omega]; exact Blk.new _ _ _
  have k4 : Boxed w4 (w.heap.size + 1 + 1 + 1) 22 (.slice none 0 0) := by rw [← h4, show w.heap.size + 1 + 1 + 1 = w3.heap.size by omega]; exact Boxed.new _ _ _
  have k5 : Blk w5 (w.heap.size + 1 + 1 + 1 + 1) #[.slice oa len cap] 24 := by rw [← h5, show w.heap.size + 1 + 1 + 1 + 1 = w4.heap.size by omega]; exact Blk.new _ _ _
  have k6 : Blk w6 (w.heap.size + 1 + 1 + 1 + 1 + 1) #[.int .i64 m] 3 := by rw [← h6, show w.heap.size + 1 + 1 + 1 + 1 + 1 = w5.heap.size by omega]; exact Blk.new _ _ _
  refine ⟨w6, by rw [h1, h2, h3, h4, h5, h6], ⟨k1.after b16, k2.after b26, k3.after b36, ⟨_, boxed_afterX k4 b46, World.ownsRow_nil _ _ _ _, trivial⟩, b01.trans (b16.mono b01.size), by omega⟩, s6, k5.after b56, k6⟩

set_option maxHeartbeats 4000000 in
theorem sh_pack (oa : Option Addr) (cap : Nat) (l : List Rc) (hl : l.length ≤ 1000000) (hcap : l.length ≤ cap) (n : Int) (w : World) (ha : XsAt w oa l) :
    Calls Tryd.prog 12 #[.slice oa l.length cap, .int .i64 n] w (PackT l n w) := by
  obtain ⟨len, hlen⟩ : ∃ len, l.length = len := ⟨_, rfl⟩
  have HLEN := Lib.hid hlen
  rw [hlen] at hl hcap ⊢
  have HA := Lib.hid ha
  clear ha hlen
  refine calls_of_marks Tryd.func12 rfl ?_
  simp only [Tryd.ntmps12, List.size_toArray, List.length_cons, List.length_nil, Nat.reduceAdd, Nat.reduceSub, Array.replicate_succ, Array.replicate_zero, List.push_toArray, List.append_toArray, List.nil_append, List.cons_append]
  by_cases hz : holdN n = 0
  · have hh := fun w => sh_hold n w
    rw [hz] at hh
    have HH := Lib.hid hh
    have HZ := Lib.hid hz
    clear hh hz
    go_wp2_with fail
    refine (HH.out _).mono ?_
    rintro e w1 ⟨rfl, rfl⟩
    go_wp2_with fail
    have hb3 : Below w.heap.size w (((w.alloc (.cells #[.int .i64 n] 3)).alloc (.cells #[.slice none 0 0] 22)).alloc (.cells #[.int .i64 2] 26)) := (((Below.refl _ _).alloc (Nat.le_refl _) _).alloc (by simp) _).alloc (by simp; omega) _
    have k2 : Blk (((w.alloc (.cells #[.int .i64 n] 3)).alloc (.cells #[.slice none 0 0] 22)).alloc (.cells #[.int .i64 2] 26)) (w.heap.size + 1) #[.slice none 0 0] 22 := by
      have h := (Blk.new (w.alloc (.cells #[.int .i64 n] 3)) #[.slice none 0 0] 22).alloc (.cells #[.int .i64 2] 26)
      rwa [World.size_alloc] at h
    have k3 : Blk (((w.alloc (.cells #[.int .i64 n] 3)).alloc (.cells #[.slice none 0 0] 22)).alloc (.cells #[.int .i64 2] 26)) (w.heap.size + 1 + 1) #[.int .i64 2] 26 := by
      have h := Blk.new ((w.alloc (.cells #[.int .i64 n] 3)).alloc (.cells #[.slice none 0 0] 22)) #[.int .i64 2] 26
      rwa [World.size_alloc, World.size_alloc] at h
    exact leave_none rfl (results_cells_twoX rfl _ _ (w.heap.size + 1) (w.heap.size + 1 + 1) (.slice none 0 0) (.int .i64 2) rfl (k2.cell 0) Tryd.isAgg22 rfl (k3.cell 0) Tryd.isAgg26)
      ⟨fun _ => rfl, fun h => absurd HZ.out h, fun h => absurd HZ.out h, hb3⟩
  · have hin : 16 ≤ n ∧ n ≤ 256 := by
      by_cases hx : 16 ≤ n ∧ n ≤ 256
      · exact hx
      · exact absurd (holdN_out hx) hz
    have hp := holdN_pos hin
    have h28 := holdN_le n
    have hh := fun w => sh_hold n w
    obtain ⟨m, hhe⟩ : ∃ m, holdN n = m := ⟨_, rfl⟩
    rw [hhe] at hz hp h28
    simp only [hhe] at hh
    obtain ⟨N, hN⟩ : ∃ N : Nat, n = N := ⟨n.toNat, by omega⟩
    subst hN
    have HHE := Lib.hid hhe
    have HH := Lib.hid hh
    have HZ : Hid (m ≠ 0) := hz
    have HIN := Lib.hid (⟨hin, hp, h28⟩ : (16 ≤ (N : Int) ∧ (N : Int) ≤ 256) ∧ (1 ≤ m ∧ 1 + 9 * (m : Int) ≤ (N : Int)) ∧ m ≤ 28)
    have hh0 : ((m : Int) == 0) = false := by simp; omega
    clear hh hin hp h28 hhe hz
    go_wp2_with fail
    refine (HH.out _).mono ?_
    rintro e w1 ⟨rfl, rfl⟩
    clear HH
    go_wp2_with fail
    refine (shp_any oa len cap m _).mono ?_
    rintro r w6 ⟨rfl, rfl⟩
    go_wp2_with fail
    obtain ⟨W0, hW0, hS0, hz, hk4, hk5⟩ := pk_start w N m l oa len cap
    obtain ⟨b, hb⟩ : ∃ b, w.heap.size = b := ⟨_, rfl⟩
    have HB := Lib.hid hb
    rw [hW0]
    rw [hb] at hS0 hz hk4 hk5 ⊢
    have HBe : w.heap.size ≤ b := Nat.le_of_eq hb
    clear hW0 hb
    obtain ⟨bl, off, ho⟩ : ∃ bl off, len = 0 ∨ oa = some ⟨bl, off, none⟩ := by
      by_cases hne : l = []
      · exact ⟨0, 0, Or.inl (by rw [← HLEN.out, hne]; rfl)⟩
      · obtain ⟨bl, off, h1, _⟩ := HA.out hne
        exact ⟨bl, off, Or.inr h1⟩
    have HO := Lib.hid ho
    have hc4 := hk4.cell 0
    have hc5 := hk5.cell 0
    have HK4 := Lib.hid hk4
    have HK5 := Lib.hid hk5
    have HM1 : Hid (1 ≤ m ∧ m ≤ 28) := ⟨HIN.out.2.1.1, HIN.out.2.2⟩
    refine wpIn_wide.1 (wpIn_rangeFunc_ownH (F := Fence.wide) (n := 9) rfl (by decide) (gf := 28) (lb := #[.pointer (some ⟨b + 1 + 1 + 1 + 1, 0, none⟩), .pointer (some ⟨b + 1 + 1 + 1 + 1 + 1, 0, none⟩)]) rfl trivial (enters_of Tryd.func28 (by kernel_rfl) rfl)
      (shp_stops 8 (by decide) (b + 1 + 1 + 1 + 1) (b + 1 + 1 + 1 + 1 + 1) m bl off len cap oa ho HM1.out.1 HM1.out.2 hl hcap W0 (by omega) (by omega) hc4 hc5) KeepB.trans (KeepB.mark (by simp; omega)) (Below.refl _ _) (fun _ => rfl)
      (fun pre W => PkS w b N m l pre W ∧ ∀ x ∈ pre, ∀ y ∈ partX m l x, MayX y)
      (fun c pre W => c = .ret ∧ ¬ (∀ y ∈ l, MayX y) ∧ Blk W (b + 1) #[.slice none 0 0] 22 ∧ Blk W (b + 1 + 1) #[.int .i64 110] 26 ∧ Below w.heap.size w W)
      ?hI ?hIx ⟨hS0, fun x hx => absurd hx List.not_mem_nil⟩
      (fun x a' W => a' = { tmps := #[Value.slice oa len cap, Value.int IntKind.i64 ↑N, undef,
          Value.pointer (some { block := b, off := 0 }),
          Value.pointer (some { block := b + 1, off := 0 }),
          Value.pointer (some { block := b + 1 + 1, off := 0 }), Value.int IntKind.i64 ↑m,
          Value.pointer (some { block := b + 1 + 1 + 1, off := 0 }), pieceV bl off len m x, undef, undef,
          Value.int IntKind.i64 ↑N, Value.int IntKind.i64 ↑m, Value.int IntKind.i64 ↑m, Value.bool false,
          Value.slice oa len cap, Value.int IntKind.i64 ↑m,
          Value.func (Fn.func 28) #[]
            #[Value.pointer (some { block := b + 1 + 1 + 1 + 1, off := 0 }),
              Value.pointer (some { block := b + 1 + 1 + 1 + 1 + 1, off := 0 })],
          pieceV bl off len m x, undef, undef, undef, undef, undef, undef, undef, undef, undef, undef, undef, undef, undef, undef], defers := [] }) ?hAx ?assign ?body ?done ?stop)
    case hI =>
      intro pre X Y row h hg hr
      rw [hz] at hr
      exact ⟨PkS.from (by omega) pre X Y row h.1 hg hr, h.2⟩
    case hIx =>
      rintro c pre X Y row ⟨hc, h1, h2, h3, h4⟩ hg hr
      exact ⟨hc, h1, blk_kept h2 hg (fun r e => (hr r e).2), blk_kept h3 hg (fun r e => (hr r e).2), h4.grown hg h4.size (fun r e => by have := (hr r e).1; omega)⟩
    case hAx =>
      rintro x a' _ X Y row h _ _
      exact h
    case assign =>
      rintro l' pre x W K hC hK
      have HC := Lib.hid hC
      clear hC
      gi_wp2
      exact hK _ _ (KeepsFrom.refl _ _) (KeepB.refl _ _) HC.out rfl
    case body =>
      rintro l' pre x a' W _ _ ⟨hC, hmy⟩ rfl hlen
      have cn := hC.n.cell 0
      have hpl : pre.length ≤ 1100000 := by
        have h1 : (len + m - 1) / m ≤ len + m - 1 := Nat.div_le_self _ _
        have := HM1.out.2
        omega
      have hxs := piece_at (HA.out.below hC.below) (b := bl) (off := off) (by rw [HLEN.out]; exact HO.out) m x
      have hxl := partX_len m l x
      rw [HLEN.out] at hxl
      have hfill : Calls Tryd.prog 22 #[pieceV bl off len m x, .int .i64 N] W (FillT N (partX m l x) W) := by
        have h := sh_fill (some ⟨bl, off + x * m * 3, none⟩) (min m (len - x * m)) (partX m l x) N (by have := HM1.out; omega) (by have := HIN.out; omega) (by have := HIN.out; omega) W hxs
        unfold pieceV
        rwa [hxl] at h
      have HFILL := Lib.hid hfill
      have HC := Lib.hid hC
      have HMY := Lib.hid hmy
      clear hC hmy hxs hxl hfill hlen
      obtain ⟨pv, hpv⟩ : ∃ pv, pieceV bl off len m x = pv := ⟨_, rfl⟩
      rw [hpv] at HFILL ⊢
      clear hpv
      gi_wp2_with fail
      refine ⟨trivial, CallsIn.inRound l' (callsIn_wide.2 (HFILL.out.mono ?_))⟩
      rintro e w3 ⟨h1, h2, hb3⟩
      have HC3 := Lib.hid (HC.out.after hb3)
      have HB3 := Lib.hid hb3
      have hKB : Hid (KeepB [b + 1 + 1 + 1 + 1, b + 1 + 1 + 1 + 1 + 1] W w3) := KeepB.of_below hb3 (by have := HC.out.size; simp; omega)
      by_cases hall : ∀ y ∈ partX m l x, MayX y
      · have he := h1 hall
        subst he
        have HALL := Lib.hid hall
        obtain ⟨u, hbu, hown, _⟩ := HC3.out.out
        have c7 := hbu.cell
        have f7 := hbu.frozen
        obtain ⟨ad, cp, hu⟩ : ∃ ad cp, u = .slice ad pre.length cp := by
          rcases hown.2 with ⟨h, h0⟩ | ⟨g, cap, cur, h, _⟩
          · exact ⟨none, 0, by rw [h, h0]⟩
          · exact ⟨_, cap, h⟩
        subst hu
        obtain ⟨pg, hpg⟩ : ∃ pg, pageX N (partX m l x) = pg := ⟨_, rfl⟩
        rw [hpg]
        have HPG := Lib.hid hpg
        have HBU := Lib.hid hbu
        have HOW := Lib.hid hown
        have hsz := HC3.out.size
        obtain ⟨i0, hi, hz0, hz1', hz2'⟩ := info_partsX infoStr
        have hcn := cells_newX w3 #[.string pg] 9
        have HCN := Lib.hid hcn
        clear h1 h2 hall hbu hown hpg hb3 cn HFILL hcn
        gi_wp2_with (gi_at_builtin; refine wpListIn_append_own _ rfl _ _ 22 rfl (b + 6) 9 i0 (.string ByteArray.empty) 1 16 Tryd.underlying22 hi hz0 hz1' hz2' rfl (by decide) _ _ _ rfl (HOW.out.alloc _) ⟨w3.heap.size, 0, none⟩ 1 1 [.string pg] rfl rfl ?c1 ?c2 ?c3 ?c4 ?c5 ?_)
        case c1 => exact HCN.out
        case c2 => intro u hu; simp at hu; subst hu; rfl
        case c3 => unfold maxLen; omega
        case c4 => omega
        case c5 => simp; omega
        intro v' w4 hown1 hgrow _
        obtain ⟨g', cap', rfl⟩ := ownsRow_succ hown1
        have hte : (22 : TypeId) ≠ 9 := by decide
        obtain ⟨hx1, hx2, hx0, hx4, hx5⟩ := Boxed.appended (n₀ := b + 1 + 1 + 1) HBU.out hte (ownsRow_monoX HOW.out (by omega)) (by omega) (Nat.le_refl _) (ownsRow_monoX hown1 (by omega)) hgrow
        have hx3 := hown1.kept (grownBy_setCell' w4 (b + 1 + 1 + 1) (.slice (some ⟨g', 0, none⟩) (pre.length + 1) cap')) (.inr (hx1.not_row hte hown1).symm)
        have c7' := hx1.cell
        have f7' := hx1.frozen
        have hmid : ∀ p, b + 1 + 1 + 1 < p → p < b + 6 → (w4.setCell ⟨b + 1 + 1 + 1, 0, none⟩ (.slice (some ⟨g', 0, none⟩) (pre.length + 1) cap')).heap[p]? = w3.heap[p]? := fun p p1 p2 =>
          (Below.heap_setCell w4 ⟨b + 1 + 1 + 1, 0, none⟩ _ p (by show p ≠ b + 1 + 1 + 1; omega)).trans ((hgrow.block p (by simp; omega) (fun e => by have := (HOW.out.lt p e.symm).1; omega)).trans (Below.heap_alloc _ _ _ (by omega)))
        have HKB2 : Hid (KeepB [b + 1 + 1 + 1 + 1, b + 1 + 1 + 1 + 1 + 1] W (w4.setCell ⟨b + 1 + 1 + 1, 0, none⟩ (.slice (some ⟨g', 0, none⟩) (pre.length + 1) cap'))) :=
          hKB.out.trans (fun p hp => hmid p (by simp at hp; omega) (by simp at hp; omega))
        have hCn : PkS w b N m l (pre ++ [x]) (w4.setCell ⟨b + 1 + 1 + 1, 0, none⟩ (.slice (some ⟨g', 0, none⟩) (pre.length + 1) cap')) :=
          ⟨HC3.out.n.below hx5 (by omega), HC3.out.r1.below hx5 (by omega), HC3.out.r2.below hx5 (by omega), ⟨_, hx2, by rw [pgsX_snoc, List.length_append, HPG.out]; exact hx3, trivial⟩, HC3.out.below.trans (hx5.mono (by omega)), by have := hx5.size; omega⟩
        have HCN2 := Lib.hid hCn
        have HX4 := Lib.hid hx4
        clear hCn hmid hx0 hx1 hx2 hx3 hx4 hx5 hgrow hKB HCN
        gi_wp2_with fail
        refine ⟨(keeps_of_below _ HB3.out).trans (HX4.out.from _), HKB2.out, HCN2.out, fun z hzz => ?_⟩
        rcases List.mem_append.1 hzz with h | h
        · exact HMY.out z h
        · rw [List.mem_singleton.1 h]; exact HALL.out
      · have he := h2 hall
        subst he
        have HNO : Hid (¬ ∀ y ∈ l, MayX y) := fun h => hall (partX_sub h)
        have k1 := HC3.out.r1
        have c1 := k1.cell 0
        have f1 := k1.free 0
        have k2 : Blk (w3.setCell ⟨b + 1, 0, none⟩ (.slice none 0 0)) (b + 1 + 1) #[.int .i64 0] 26 := HC3.out.r2.set_other (by omega) _ _
        have c2 := k2.cell 0
        have f2 := k2.free 0
        have HK1 := Lib.hid k1
        have HK2 := Lib.hid k2
        clear h1 h2 hall hb3 cn HFILL k1 k2
        gi_wp2_with fail
        refine ⟨(keeps_of_below _ HB3.out).trans ((keeps_set _ _ _).trans (keeps_set _ _ _)), rfl, HNO.out, (HK1.out.set 0 _ rfl).set_other (by omega) _ _, HK2.out.set 0 _ rfl, ?_⟩
        exact (HC3.out.below.setCell (p := ⟨b + 1, 0, none⟩) (by show _ ≤ b + 1; omega) _).setCell (p := ⟨b + 1 + 1, 0, none⟩) (by show _ ≤ b + 1 + 1; omega) _
    case done =>
      rintro D pre W hD hpre ⟨hC, hmy⟩ hdef
      have hall : ∀ y ∈ l, MayX y := partX_all (m := m) (by have := HM1.out.1; omega) (fun x hx y hy => hmy x (by rw [hpre, List.mem_range, ← HLEN.out]; exact hx) y hy)
      obtain ⟨u, hbu, hown, _⟩ := hC.out
      have hpl : pre.length = pagesN m l := by rw [hpre, List.length_range]; unfold pagesN; rw [HLEN.out]
      have hpx : pgsX N m l pre = strV (pagesX N m l) := by rw [hpre, ← HLEN.out]; rfl
      rw [hpl, hpx] at hown
      have c7 := hbu.cell
      have k1 := hC.r1
      have c1 := k1.cell 0
      have f1 := k1.free 0
      have k2 : Blk (W.setCell ⟨b + 1, 0, none⟩ u) (b + 1 + 1) #[.int .i64 0] 26 := hC.r2.set_other (by omega) _ _
      have c2 := k2.cell 0
      have f2 := k2.free 0
      have huo : u.ownBlock = none ∨ ∃ g, u.ownBlock = some g ∧ b + 6 ≤ g := by
        cases hv : u.ownBlock with
        | none => exact .inl rfl
        | some g => exact .inr ⟨g, rfl, (hown.lt g hv).1⟩
      obtain ⟨ad, nn, cp, hu⟩ : ∃ ad nn cp, u = .slice ad nn cp := by
        rcases hown.2 with ⟨h, _⟩ | ⟨g, cap, cur, h, _⟩
        · exact ⟨none, 0, 0, h⟩
        · exact ⟨_, _, cap, h⟩
      have HUO := Lib.hid huo
      have HALL := Lib.hid hall
      have HOW := Lib.hid hown
      have HK1 := Lib.hid k1
      have HK2 := Lib.hid k2
      have HC := Lib.hid hC
      have HD := Lib.hid hD
      have HDEF := Lib.hid hdef
      subst hu
      clear hall hbu hown hpl hpx k1 k2 huo hC hmy hpre hD hdef
      go_wp2_with fail
      have hne1 : (Value.slice ad nn cp).ownBlock = none ∨ (Value.slice ad nn cp).ownBlock ≠ some (b + 1) := by
        rcases HUO.out with h | ⟨g, h, hg⟩
        · exact .inl h
        · exact .inr (by rw [h]; intro e; cases e; omega)
      have hne2 : (Value.slice ad nn cp).ownBlock = none ∨ (Value.slice ad nn cp).ownBlock ≠ some (b + 1 + 1) := by
        rcases HUO.out with h | ⟨g, h, hg⟩
        · exact .inl h
        · exact .inr (by rw [h]; intro e; cases e; omega)
      have hD0 : b + 6 ≤ D := by have := HD.out; omega
      have hK2 : ((W.setCell ⟨b + 1, 0, none⟩ (.slice ad nn cp)).setCell ⟨b + 1 + 1, 0, none⟩ (.int .i64 0)).heap[D]? = some (.deferred (some [])) :=
        (keeps_set (b + 6) ⟨b + 1 + 1, 0, none⟩ (.int .i64 0)).same D _ (by omega) ((keeps_set (b + 6) ⟨b + 1, 0, none⟩ (.slice ad nn cp)).same D _ (by omega) HDEF.out rfl) rfl
      have hB2 : Below w.heap.size w ((W.setCell ⟨b + 1, 0, none⟩ (.slice ad nn cp)).setCell ⟨b + 1 + 1, 0, none⟩ (.int .i64 0)) :=
        (HC.out.below.setCell (p := ⟨b + 1, 0, none⟩) (by show _ ≤ b + 1; omega) _).setCell (p := ⟨b + 1 + 1, 0, none⟩) (by show _ ≤ b + 1 + 1; omega) _
      have hq1 : Blk ((W.setCell ⟨b + 1, 0, none⟩ (.slice ad nn cp)).setCell ⟨b + 1 + 1, 0, none⟩ (.int .i64 0)) (b + 1) #[.slice ad nn cp] 22 := (HK1.out.set 0 _ rfl).set_other (by omega) _ _
      have hq2 : Blk ((W.setCell ⟨b + 1, 0, none⟩ (.slice ad nn cp)).setCell ⟨b + 1 + 1, 0, none⟩ (.int .i64 0)) (b + 1 + 1) #[.int .i64 0] 26 := HK2.out.set 0 _ rfl
      have ho1 := (HOW.out.kept (grownBy_setCell' W (b + 1) (.slice ad nn cp)) hne1).kept (grownBy_setCell' _ (b + 1 + 1) (.int .i64 0)) hne2
      have ho2 := ownsRow_putObj ho1 (.deferred none) hK2 rfl
      refine leave_one rfl hK2 (results_cells_twoX rfl _ _ (b + 1) (b + 1 + 1) (.slice ad nn cp) (.int .i64 0) rfl ((blk_mark hq1 hK2).cell 0) Tryd.isAgg22 rfl ((blk_mark hq2 hK2).cell 0) Tryd.isAgg26) ⟨fun h => absurd h (by rw [HHE.out]; exact HZ.out), fun _ _ => ⟨_, rfl, ?_⟩, fun _ h => absurd HALL.out h, below_mark hB2 (by omega) hK2⟩
      rw [HHE.out, Int.toNat_natCast]
      exact ownsRow_monoX ho2 (by omega)
    case stop =>
      rintro D c pre W hD _ ⟨rfl, hno, hr1, hr2, hBW⟩ hdef
      have HNO := Lib.hid hno
      have HBW := Lib.hid hBW
      have HD := Lib.hid hD
      have HDEF := Lib.hid hdef
      have HR1 := Lib.hid hr1
      have HR2 := Lib.hid hr2
      clear hno hr1 hr2 hBW hdef hD
      gi_wp2_with fail
      exact leave_one rfl HDEF.out (results_cells_twoX rfl _ _ (b + 1) (b + 1 + 1) (.slice none 0 0) (.int .i64 110) rfl ((blk_mark HR1.out HDEF.out).cell 0) Tryd.isAgg22 rfl ((blk_mark HR2.out HDEF.out).cell 0) Tryd.isAgg26) ⟨fun h => absurd h (by rw [HHE.out]; exact HZ.out), fun _ h => absurd h HNO.out, fun _ _ => rfl, below_mark HBW.out (by have := HD.out; omega) HDEF.out⟩

end Go.Proofs.YtklbmlnghindjaaDoor
