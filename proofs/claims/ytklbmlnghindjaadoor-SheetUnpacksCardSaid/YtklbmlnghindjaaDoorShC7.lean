/- Package sheet, walked: the iterator of Each. -/
import Derived.Test.YtklbmlnghindjaaDoorShC3
import Derived.Test.YtklbmlnghindjaaDoorShB
import Derived.Test.YtklbmlnghindjaaDoorRng
namespace Go.Proofs.YtklbmlnghindjaaDoor
set_option maxRecDepth 100000
open Go.RowKit
attribute [local go_sem] Oper.semAt_some

theorem wpListIn_store_rowX {F : Fence} {n : Nat} {P : Program} {ops : Array Oper} {rest : List Oper} {o : Oper} {a : Act} {w : World} {Q : Exit → Act → World → Prop} (hgd : o.guard = none) (ty : TypeId) (x y : Operand) (ho : o.op = .store ty x y)
    (g : Nat) (cells : Array Value) (hx : a.eval x = .pointer (some ⟨g, 0, none⟩)) (hy : a.eval y = .agg cells)
    (t : TypeId) (old : Array Value) (hg : w.heap[g]? = some (.cells old t (0, 0))) (hi : (P.info? ty).map (·.size) = some cells.size)
    (hold : old.size = cells.size) (h1 : cells.all (·.oneCell') = true)
    (h : wpListIn F n P ops Q rest (a.put o.dst undef) (w.setRow g cells)) : wpListIn F n P ops Q (o :: rest) a w := by
  refine wpListIn_plain hgd fun K hK => ?_
  unfold Oper.wpIn
  refine ⟨?_, ?_⟩
  · simp [Oper.about, ho]
  · rw [Oper.semAt_plain F _ _ (by rw [ho]; intro c hc'; cases hc')]
    simp only [execOp, ho, hx, hy, Instr.storeAt, Instr.sureAddr, Sem.run_bind, Sem.run_pure, Result.andThen_ok, run_storeVar_row w g t ty old cells hg hi hold h1]
    exact hK _ _ h
theorem wpListIn_load_rowX {F : Fence} {n : Nat} {P : Program} {ops : Array Oper} {rest : List Oper} {o : Oper} {a : Act} {w : World} {Q : Exit → Act → World → Prop} (hgd : o.guard = none) (ty : TypeId) (x : Operand) (ho : o.op = .load ty x)
    (g : Nat) (hx : a.eval x = .pointer (some ⟨g, 0, none⟩)) (t : TypeId) (cs : Array Value) (fr : Nat × Nat) (d : TypeDesc) (hg : w.heap[g]? = some (.cells cs t fr))
    (hu : P.underlying ty = some d) (hd : (match d with | .struct _ | .array _ _ => true | _ => false) = true) (hi : (P.info? ty).map (·.size) = some cs.size)
    (h : wpListIn F n P ops Q rest (a.put o.dst (.agg cs)) w) : wpListIn F n P ops Q (o :: rest) a w := by
  refine wpListIn_plain hgd fun K hK => ?_
  unfold Oper.wpIn
  refine ⟨?_, ?_⟩
  · simp [Oper.about, ho]
  · rw [Oper.semAt_plain F _ _ (by rw [ho]; intro c hc'; cases hc')]
    simp only [execOp, ho, hx, Instr.loadAt, Instr.sureAddr, Sem.run_bind, Sem.run_pure, Result.andThen_ok, run_loadVar_row w g t ty cs fr d hg hu hd hi]
    exact hK _ _ h
theorem wpListIn_load_midX {F : Fence} {n : Nat} {P : Program} {ops : Array Oper} {rest : List Oper} {o : Oper} {a : Act} {w : World} {Q : Exit → Act → World → Prop} (hgd : o.guard = none) (ty : TypeId) (x : Operand) (ho : o.op = .load ty x)
    (g k : Nat) (hx : a.eval x = .pointer (some ⟨g, k, none⟩)) (cs : List Value) (d : TypeDesc) (hc : w.rangeAt g k cs)
    (hu : P.underlying ty = some d) (hd : d.isRow = true) (hi : (P.info? ty).map (·.size) = some cs.length)
    (h : wpListIn F n P ops Q rest (a.put o.dst (.agg cs.toArray)) w) : wpListIn F n P ops Q (o :: rest) a w := by
  refine wpListIn_plain hgd fun K hK => ?_
  unfold Oper.wpIn
  refine ⟨?_, ?_⟩
  · simp [Oper.about, ho]
  · rw [Oper.semAt_plain F _ _ (by rw [ho]; intro c hc'; cases hc')]
    simp only [execOp, ho, hx, Instr.loadAt, Instr.sureAddr, Sem.run_bind, Sem.run_pure, Result.andThen_ok, run_loadVar_mid w g k ty cs d hc hu hd hi]
    exact hK _ _ h

/-- what Each tells of pages, the first of them at place i -/
noncomputable def toldE : Nat → List ByteArray → List (Nat × Rc)
  | _, [] => []
  | i, p :: r => open Classical in if PageOk p then (recsT p).map (fun x => (i, x)) ++ toldE (i + 1) r else []
theorem toldE_ok {p : ByteArray} (h : PageOk p) (i : Nat) (r : List ByteArray) : toldE i (p :: r) = (recsT p).map (fun x => (i, x)) ++ toldE (i + 1) r := by simp only [toldE, if_pos h]
theorem toldE_no {p : ByteArray} (h : ¬ PageOk p) (i : Nat) (r : List ByteArray) : toldE i (p :: r) = [] := by simp only [toldE, if_neg h]
def encE (x : Nat × Rc) : Array Value := #[.int .i64 x.1, .agg (ra x.2.k x.2.a x.2.b)]

/-- cells from n0 on lie as they lay -/
def KeepC (n0 : Nat) (W W' : World) : Prop := ∀ k cs t fr, n0 ≤ k → W.heap[k]? = some (.cells cs t fr) → W'.heap[k]? = some (.cells cs t fr)
/-- what the iterator asks of a round -/
structure KpE (bs : List Nat) (n0 : Nat) (W W' : World) : Prop where
  old : KeepB bs W W'
  new : KeepC n0 W W'
  size : W.heap.size ≤ W'.heap.size
theorem KpE.refl (bs : List Nat) (n0 : Nat) (W : World) : KpE bs n0 W W := ⟨KeepB.refl _ _, fun _ _ _ _ _ h => h, Nat.le_refl _⟩
theorem KpE.trans {bs : List Nat} {n0 : Nat} {A B C : World} (h : KpE bs n0 A B) (k : KpE bs n0 B C) : KpE bs n0 A C :=
  ⟨h.old.trans k.old, fun i cs t fr hi hc => k.new i cs t fr hi (h.new i cs t fr hi hc), Nat.le_trans h.size k.size⟩
theorem KpE.of_below {bs : List Nat} {n0 : Nat} {W W' : World} (h : Below W.heap.size W W') (hb : ∀ b ∈ bs, b < W.heap.size) : KpE bs n0 W W' :=
  ⟨KeepB.of_below h hb, fun k _ _ _ _ hc => (h.block k (Array.getElem?_eq_some_iff.1 hc).1).trans hc, h.size⟩
theorem KpE.blk {bs : List Nat} {n0 : Nat} {W W' : World} (h : KpE bs n0 W W') {g : Nat} {cs : Array Value} {t : TypeId} (hg : n0 ≤ g) (hk : Blk W g cs t) : Blk W' g cs t := h.new g cs t _ hg hk
theorem KpE.set {bs : List Nat} {n0 : Nat} {W : World} {g : Nat} (i : Nat) (v : Value) (hg : g < n0) (hb : g ∉ bs) : KpE bs n0 W (W.setCell ⟨g, i, none⟩ v) :=
  ⟨KeepB.set i v hb, fun k _ _ _ hk hc => (Below.heap_setCell _ _ _ _ (by show k ≠ g; omega)).trans hc, by rw [World.size_setCell]; exact Nat.le_refl _⟩
theorem KpE.mark {bs : List Nat} {n0 : Nat} {w : World} (hb : ∀ b ∈ bs, b < w.heap.size) (W : World) (l : Nat) (o o' : Obj) (hl : w.heap.size ≤ l) (h1 : W.heap[l]? = some o) (h2 : o.isCells = false) (h3 : o.isWalk = false) : KpE bs n0 W (W.putObj l o') :=
  ⟨KeepB.mark hb W l o o' hl h1 h2 h3, fun k _ _ _ _ hc => by
    have hne : k ≠ l := fun e => by subst e; rw [h1] at hc; cases hc; cases h2
    rw [World.putObj_heap_other hne]; exact hc, (grownBy_putObj' W l o').size⟩

/-- a captured list of texts: the box, and the row that it names -/
def CapS (W : World) (B g : Nat) (l : List ByteArray) : Prop := ∃ (a : Option Addr) (cap : Nat), W.cell? ⟨B, 0, none⟩ = some (.slice a l.length cap) ∧ (l ≠ [] → a = some ⟨g, 0, none⟩) ∧ ∀ k (hk : k < l.length), W.cell? ⟨g, k, none⟩ = some (.string l[k])
theorem CapS.keep {W W' : World} {B g : Nat} {l : List ByteArray} (h : CapS W B g l) (hb : KeepB [B, g] W W') : CapS W' B g l := by
  obtain ⟨a, cap, h1, h2, h3⟩ := h
  exact ⟨a, cap, (hb.cell (by simp)).trans h1, h2, fun k hk => (hb.cell (by simp)).trans (h3 k hk)⟩
theorem grown_of_belowX {W W' : World} (h : Below W.heap.size W W') : W.grownBy W' none := ⟨h.os, h.tape, h.output, h.size, fun k hk _ => h.block k hk⟩

set_option maxHeartbeats 4000000 in
theorem each_in (m : Nat) (hm : 1 ≤ m) (l B g n0 : Nat) (L : List ByteArray) (hLn : L.length ≤ 1000000) (hLs : ∀ p ∈ L, p.size ≤ maxLen) (J Jx : List (Nat × Rc) → World → Prop) (W : World) (hn0 : n0 ≤ W.heap.size) (hBg : B < W.heap.size ∧ g < W.heap.size) (hA : AbidesFrom W.heap.size J)
    (hY : ∀ pre x W, J pre W → pre.length < (toldE 0 L).length → YieldAt Fence.wide (m - 1) Tryd.prog l (encE x) W fun e W' =>
      (e = .returned (.bool true) ∧ J (pre ++ [x]) W' ∧ KpE [B, g] n0 W W') ∨ (e = .returned (.bool false) ∧ Jx (pre ++ [x]) W'))
    (hat : CapS W B g L) (h0 : J [] W) :
    CallsIn Fence.wide m Tryd.prog 20 #[.func (.yield l) #[] #[], .pointer (some ⟨B, 0, none⟩)] W fun e W' => (∃ v, e = .returned v) ∧
      ((∃ ys, ys = toldE 0 L ∧ J ys W') ∨ (∃ pre, (∃ k, k ≤ (toldE 0 L).length ∧ pre = (toldE 0 L).take k) ∧ Jx pre W')) := by
  have HAT := Lib.hid hat
  obtain ⟨a, cap, hcb, ha, _⟩ := hat
  have HY := Lib.hid hY
  have HAB := Lib.hid hA
  have HAA := Lib.hid ha
  have HLS := Lib.hid hLs
  obtain ⟨n, hn⟩ : ∃ n, L.length = n := ⟨_, rfl⟩
  have HN := Lib.hid hn
  rw [hn] at hcb hLn
  have HJ0 := Lib.hid h0
  have HN0 := Lib.hid hn0
  have HBG := Lib.hid hBg
  clear hY hA ha hn h0 hn0 hLs hBg
  refine callsIn_of_wp Tryd.func20 rfl trivial ?_ rfl
  simp only [Tryd.ntmps20, List.size_toArray, List.length_cons, List.length_nil, Nat.reduceAdd, Nat.reduceSub, Array.replicate_succ, Array.replicate_zero, List.push_toArray, List.append_toArray, List.nil_append, List.cons_append]
  gi_wp2
  gi_loopw [11] (fun i wr => ∃ (k : Nat) (pre : List (Nat × Rc)), k ≤ n ∧ i = .int .i64 k ∧ Hid (J pre wr) ∧ Hid (toldE 0 L = pre ++ toldE k (L.drop k)) ∧ Hid (KpE [B, g] n0 W wr)) (fun i _ => n - (intOf i).toNat)
  case atStart => exact ⟨0, [], Nat.zero_le _, rfl, HJ0.out, rfl, KpE.refl _ _ _⟩
  case round =>
    clear HJ0
    obtain ⟨k, pre, hk, rfl, HJ, HT, HKP⟩ := hrel
    by_cases hlt : k < n
    · have hlti : (k : Int) < (n : Int) := by omega
      have hkl : k < L.length := by have := HN.out; omega
      obtain rfl : a = some ⟨g, 0, none⟩ := HAA.out (fun e => by rw [e] at hkl; simp at hkl)
      obtain ⟨_, _, _, _, hcells⟩ := HAT.out.keep HKP.out.old
      have hck := hcells k hkl
      have hdr : L.drop k = L[k] :: L.drop (k + 1) := List.drop_eq_getElem_cons hkl
      have hps := HLS.out L[k] (List.getElem_mem hkl)
      generalize L[k] = p at hck hdr hps
      have HDR := Lib.hid hdr
      have HUP := Lib.hid (sh_unpack p hps wr)
      have hBw : ∀ b ∈ [B, g], b < wr.heap.size := fun b hb => by
        have h1 := HBG.out
        have h2 := HKP.out.size
        simp at hb
        rcases hb with rfl | rfl <;> omega
      have HBW := Lib.hid hBw
      have HPL : Hid ((toldE 0 L).length ≥ 0) := Nat.zero_le _
      clear hcells hdr hps hBw hkl
      gi_wp2
      refine ⟨trivial, callsIn_wide.2 (HUP.out.mono ?_)⟩
      rintro e w2 ⟨h1, h2, hb2⟩
      have HJ2 : Hid (J pre w2) := HAB.out _ wr w2 none HJ.out (grown_of_belowX hb2) (fun r e => by cases e)
      have HK2 : Hid (KpE [B, g] n0 W w2) := HKP.out.trans (KpE.of_below hb2 HBW.out)
      by_cases ho : PageOk p
      · obtain ⟨v, rfl, hown⟩ := h1 ho
        have hT2 := HT.out
        rw [HDR.out, toldE_ok ho] at hT2
        have hmany := ho.many
        have hrl := recsT_len p
        obtain ⟨xs, hxs⟩ : ∃ xs, recsT p = xs := ⟨_, rfl⟩
        rw [hxs] at hown hT2 hrl
        obtain ⟨q, hq⟩ : ∃ q, xs.length = q := ⟨_, rfl⟩
        have hq1 : 1 ≤ q := by omega
        have hq2 : q ≤ 28 := by have := holdN_le p.size; omega
        rw [hq] at hown
        obtain ⟨_, hown⟩ := hown
        rcases hown with ⟨_, h0⟩ | ⟨gU, c2, cur, rfl, hbU, hgU, _, _, _, ht⟩
        · omega
        have hgn : n0 ≤ gU := by have := HN0.out; have := HKP.out.size; omega
        have HBU : Hid (Blk w2 gU cur 32) := hgU
        have HCUR : Hid (cur.toList.take (q * 3) = flatX xs) := ht
        have HQ := Lib.hid hq
        have HGN := Lib.hid hgn
        have HT2 := Lib.hid hT2
        clear h1 h2 hb2 ho hT2 hmany hrl hxs hq hbU hgU ht hgn HUP HJ HKP HT HDR
        gi_wp2
        gi_loopw [25] (fun jv wr2 => ∃ j : Nat, j ≤ q ∧ jv = .int .i64 j ∧ Hid (J (pre ++ (xs.take j).map fun x => (k, x)) wr2) ∧ Hid (KpE [B, g] n0 W wr2) ∧ Hid (Blk wr2 gU cur 32)) (fun jv _ => q - (intOf jv).toNat)
        case atStart => exact ⟨0, Nat.zero_le _, rfl, by rw [List.take_zero, List.map_nil, List.append_nil]; exact HJ2.out, HK2.out, HBU.out⟩
        case round =>
          obtain ⟨j, hj, rfl, HJ, HKP, HBJ⟩ := hrel
          by_cases hlt2 : j < q
          · have hltj : (j : Int) < (q : Int) := by omega
            have hjx : j < xs.length := by rw [HQ.out]; exact hlt2
            obtain ⟨x, hx⟩ : ∃ x, xs[j] = x := ⟨_, rfl⟩
            have hrow : wr.rangeAt gU (j * 3) [.int .i64 x.k, .int .i64 x.a, .int .i64 x.b] := fun t v hv => by
              have ht3 : t < 3 := (List.getElem?_eq_some_iff.1 hv).1
              have h5 := flatX_get xs j t hjx ht3
              rw [hx] at h5
              rw [HBJ.out.cell, ← Array.getElem?_toList, ← List.getElem?_take_of_lt (show j * 3 + t < q * 3 by omega), HCUR.out, h5]
              exact hv
            have hstep : (pre ++ (xs.take j).map fun x => (k, x)) ++ [(k, x)] = pre ++ (xs.take (j + 1)).map fun x => (k, x) := by
              rw [List.append_assoc, flat_take xs j hjx, List.map_append, hx]; rfl
            have hlen : (pre ++ (xs.take j).map fun x => (k, x)).length < (toldE 0 L).length := by
              rw [HT2.out, List.length_append, List.length_append, List.length_append, List.length_map, List.length_map, List.length_take]; omega
            have htk : (pre ++ (xs.take (j + 1)).map fun x => (k, x)) = (toldE 0 L).take (pre.length + (j + 1)) ∧ pre.length + (j + 1) ≤ (toldE 0 L).length := by
              refine ⟨?_, by rw [HT2.out, List.length_append, List.length_append, List.length_map]; omega⟩
              rw [HT2.out, List.take_length_add_append, List.take_append_of_le_length (by rw [List.length_map]; omega), List.map_take]
            obtain ⟨pj, hpj⟩ : ∃ pj, (pre ++ (xs.take j).map fun x => (k, x)) = pj := ⟨_, rfl⟩
            rw [hpj] at HJ hstep hlen
            have HSTEP := Lib.hid hstep
            have HTK := Lib.hid htk
            have HROW := Lib.hid hrow
            have hgB : ∀ b ∈ [B, g], b < wr.heap.size := fun b hb => by
              have h1 := HBG.out
              have h2 := HKP.out.size
              simp at hb
              rcases hb with rfl | rfl <;> omega
            obtain ⟨w4, hw4⟩ : ∃ w4, (wr.alloc (.cells (ra 0 0 0) 32)).setRow wr.heap.size (ra x.k x.a x.b) = w4 := ⟨_, rfl⟩
            have hb4 : Below wr.heap.size wr w4 := by rw [← hw4]; exact below_put (Nat.le_refl _) _ ((Below.refl _ _).alloc (Nat.le_refl _) _)
            have hk4 : Blk w4 wr.heap.size (ra x.k x.a x.b) 32 := by rw [← hw4]; exact (Blk.new _ _ _).put _
            have HJ4 : Hid (J pj w4) := HAB.out _ wr w4 none HJ.out (grown_of_belowX hb4) (fun r e => by cases e)
            have HK4 : Hid (KpE [B, g] n0 W w4) := HKP.out.trans (KpE.of_below hb4 hgB)
            have HB4 : Hid (Blk w4 gU cur 32) := HBJ.out.after hb4
            have HYY := HY.out pj (k, x) w4 HJ4.out hlen
            unfold encE at HYY
            obtain ⟨fn, tmps, assign, body, hy, hR⟩ := HYY
            have HR := Lib.hid hR
            have K4 := Lib.hid hk4
            have HW4 := Lib.hid hw4
            clear hrow hstep hlen htk hpj hgB hb4 hk4 hw4 hR hx hjx HJ HKP HBJ
            gi_wp2_with (first
              | (refine wpListIn_load_midX rfl 32 _ rfl gU (j * 3) rfl [.int .i64 x.k, .int .i64 x.a, .int .i64 x.b] _ HROW.out Tryd.underlying32 rfl size_rec ?_)
              | (refine wpListIn_store_rowX rfl 32 (.tmp 8) (.tmp 28) rfl wr.heap.size (ra x.k x.a x.b) rfl rfl 32 (ra 0 0 0) (Blk.new wr (ra 0 0 0) 32) size_rec rfl (ra_one _ _ _) ?_; change wpListIn _ _ _ _ _ _ _ ((wr.alloc (.cells (ra 0 0 0) 32)).setRow wr.heap.size (ra x.k x.a x.b)); rw [HW4.out])
              | (refine wpListIn_load_rowX rfl 32 (.tmp 8) rfl wr.heap.size rfl 32 (ra x.k x.a x.b) (0, 0) _ K4.out Tryd.underlying32 rfl size_rec ?_))
            refine HR.out.mono ?_
            rintro e W3 (⟨rfl, hJ3, hk3⟩ | ⟨rfl, hJx3⟩)
            · have HJ3 : Hid (J (pre ++ (xs.take (j + 1)).map fun x => (k, x)) W3) := by show J _ _; rw [← HSTEP.out]; exact hJ3
              have HK3 : Hid (KpE [B, g] n0 W W3) := HK4.out.trans hk3
              have HB3 : Hid (Blk W3 gU cur 32) := hk3.blk HGN.out HB4.out
              clear hJ3 hk3 hy HR HTK HSTEP HROW
              gi_wp2
              go_roundw
              case rel => exact ⟨j + 1, by omega, by go_num, HJ3, HK3, HB3⟩
              case measure => simp [intOf]; omega
            · have HJX : Hid (Jx ((toldE 0 L).take (pre.length + (j + 1))) W3) := by show Jx _ _; rw [← HTK.out.1, ← HSTEP.out]; exact hJx3
              clear hJx3 hy HR HSTEP HROW
              gi_wp2
              refine bodyPost_ret (results_none rfl _ _ _) rfl ?_
              exact ⟨⟨_, rfl⟩, .inr ⟨_, ⟨pre.length + (j + 1), HTK.out.2, rfl⟩, HJX.out⟩⟩
          · obtain rfl : j = q := by omega
            have hltj : ¬ (j : Int) < (j : Int) := by omega
            have hall : xs.take j = xs := List.take_of_length_le (by rw [HQ.out]; exact Nat.le_refl _)
            rw [hall] at HJ
            have HT3 : Hid (toldE 0 L = (pre ++ xs.map fun x => (k, x)) ++ toldE (k + 1) (L.drop (k + 1))) := by show _ = _; rw [HT2.out, List.append_assoc]
            clear hall HT2
            gi_wp2
            go_roundw
            case rel => exact ⟨k + 1, _, by omega, by go_num, HJ, HT3, HKP⟩
            case measure => simp [intOf]; omega
      · have he := h2 ho
        subst he
        have hT2 := HT.out
        rw [HDR.out, toldE_no ho, List.append_nil] at hT2
        have HT2 := Lib.hid hT2
        obtain ⟨ee, hee⟩ : ∃ ee, unpE p = ee := ⟨_, rfl⟩
        have h3 : ee = 2 ∨ ee = 3 := by rw [← hee]; unfold unpE; split <;> simp
        rw [hee]
        clear h1 h2 hb2 ho hT2 hee HUP HJ HKP HT HDR
        rcases h3 with rfl | rfl
        all_goals
          gi_wp2
          refine bodyPost_ret (results_none rfl _ _ _) rfl ?_
          exact ⟨⟨_, rfl⟩, .inl ⟨_, HT2.out.symm, HJ2.out⟩⟩
    · obtain rfl : k = n := by omega
      have hlti : ¬ (k : Int) < (k : Int) := by omega
      have hT2 := HT.out
      rw [List.drop_eq_nil_of_le (by have := HN.out; omega), show toldE k [] = [] from rfl, List.append_nil] at hT2
      have HT2 := Lib.hid hT2
      clear hT2 HT
      gi_wp2
      go_end0
      first | exact ⟨⟨_, rfl⟩, .inl ⟨_, HT2.out.symm, HJ.out⟩⟩ | (rw [HT2.out]; exact ⟨⟨_, rfl⟩, .inl HJ.out⟩)

end Go.Proofs.YtklbmlnghindjaaDoor
