/- Texts of one claim, merged: FrD3, FrC1, CeP, FrB4, CeH, CeS, CeN. -/
import Derived.Test.YtjmoecfgpfdncaaDoorM8
import Derived.Test.YtjmoecfgpfdncaaDoorM5
import Derived.Test.YtjmoecfgpfdncaaDoorM4

/- Package frame, walked: opened. -/
namespace Go.Proofs.YtjmoecfgpfdncaaDoor
set_option maxRecDepth 100000
open Go.RowKit

theorem text_same {a b : ByteArray} (h : a.toList = b.toList) : a = b := by
  rw [ByteArray.toList_eq, ByteArray.toList_eq] at h
  exact bytes_eq h
/-- what opened answers of what chunks hold -/
def OpnPost (o : ByteArray) (w : World) (r : Ending) (w' : World) : Prop :=
  (∃ k' l' q' e' dt ok, r = .returned (.tuple #[.agg (ta k' l' q' e'), .string dt, .bool ok]) ∧ ok = decide (HoldsPage o) ∧ (HoldsPage o → ta k' l' q' e' = ta (byteT (o.extract 0 16) 1) (lT (o.extract 0 16)) (qT (o.extract 0 16)) (eT (o.extract 0 16)) ∧ dt = o.extract 16 (o.size - 8))) ∧ Below w.heap.size w w'

/-- what each operation of the region OP leaves -/
def vsOP (k' l' q' e' : Int) (bd dt : ByteArray) (n m : Nat) (e : Int) (b : Bool) : List (Option (Tmp × Value)) :=
  [some (29, .agg (ta k' l' q' e')), some (30, .string bd), some (31, .string bd), some (32, .int .i64 n), some (33, .int .i64 (m : Int)), some (34, .string dt), some (35, .int .i64 e), some (36, .bool b), none, some (3, .string dt), some (4, .bool b)]
/-- the frame while the region OP runs -/
def BaseOP (g : Nat) (bd : ByteArray) (e : Int) (a : Act) : Prop := ∃ u : Nat → Value, a = ⟨#[u 0, u 1, .pointer (some ⟨g, 0, none⟩), u 3, u 4, .string bd, .int .i64 e, u 7, u 8, u 9, u 10, u 11, u 12, u 13, u 14, u 15, u 16, u 17, u 18, u 19, u 20, u 21, u 22, u 23, u 24, u 25, u 26, u 27, u 28, u 29, u 30, u 31, u 32, u 33, u 34, u 35, u 36], []⟩
theorem BaseOP.of {g : Nat} {bd : ByteArray} {e : Int} (arr : Array Value) (h : arr = #[arr.getD 0 undef, arr.getD 1 undef, .pointer (some ⟨g, 0, none⟩), arr.getD 3 undef, arr.getD 4 undef, .string bd, .int .i64 e, arr.getD 7 undef, arr.getD 8 undef, arr.getD 9 undef, arr.getD 10 undef, arr.getD 11 undef, arr.getD 12 undef, arr.getD 13 undef, arr.getD 14 undef, arr.getD 15 undef, arr.getD 16 undef, arr.getD 17 undef, arr.getD 18 undef, arr.getD 19 undef, arr.getD 20 undef, arr.getD 21 undef, arr.getD 22 undef, arr.getD 23 undef, arr.getD 24 undef, arr.getD 25 undef, arr.getD 26 undef, arr.getD 27 undef, arr.getD 28 undef, arr.getD 29 undef, arr.getD 30 undef, arr.getD 31 undef, arr.getD 32 undef, arr.getD 33 undef, arr.getD 34 undef, arr.getD 35 undef, arr.getD 36 undef]) : BaseOP g bd e ⟨arr, []⟩ := ⟨fun i => arr.getD i undef, by rw [← h]⟩
theorem BaseOP.put29 {g : Nat} {bd : ByteArray} {e : Int} (a : Act) (v : Value) (h : BaseOP g bd e a) : BaseOP g bd e (a.put (some 29) v) := by
  obtain ⟨u, rfl⟩ := h
  exact ⟨fun i => if i = 29 then v else u i, by kernel_rfl⟩
theorem BaseOP.put30 {g : Nat} {bd : ByteArray} {e : Int} (a : Act) (v : Value) (h : BaseOP g bd e a) : BaseOP g bd e (a.put (some 30) v) := by
  obtain ⟨u, rfl⟩ := h
  exact ⟨fun i => if i = 30 then v else u i, by kernel_rfl⟩
theorem BaseOP.put31 {g : Nat} {bd : ByteArray} {e : Int} (a : Act) (v : Value) (h : BaseOP g bd e a) : BaseOP g bd e (a.put (some 31) v) := by
  obtain ⟨u, rfl⟩ := h
  exact ⟨fun i => if i = 31 then v else u i, by kernel_rfl⟩
theorem BaseOP.put32 {g : Nat} {bd : ByteArray} {e : Int} (a : Act) (v : Value) (h : BaseOP g bd e a) : BaseOP g bd e (a.put (some 32) v) := by
  obtain ⟨u, rfl⟩ := h
  exact ⟨fun i => if i = 32 then v else u i, by kernel_rfl⟩
theorem BaseOP.put33 {g : Nat} {bd : ByteArray} {e : Int} (a : Act) (v : Value) (h : BaseOP g bd e a) : BaseOP g bd e (a.put (some 33) v) := by
  obtain ⟨u, rfl⟩ := h
  exact ⟨fun i => if i = 33 then v else u i, by kernel_rfl⟩
theorem BaseOP.put34 {g : Nat} {bd : ByteArray} {e : Int} (a : Act) (v : Value) (h : BaseOP g bd e a) : BaseOP g bd e (a.put (some 34) v) := by
  obtain ⟨u, rfl⟩ := h
  exact ⟨fun i => if i = 34 then v else u i, by kernel_rfl⟩
theorem BaseOP.put35 {g : Nat} {bd : ByteArray} {e : Int} (a : Act) (v : Value) (h : BaseOP g bd e a) : BaseOP g bd e (a.put (some 35) v) := by
  obtain ⟨u, rfl⟩ := h
  exact ⟨fun i => if i = 35 then v else u i, by kernel_rfl⟩
theorem BaseOP.put36 {g : Nat} {bd : ByteArray} {e : Int} (a : Act) (v : Value) (h : BaseOP g bd e a) : BaseOP g bd e (a.put (some 36) v) := by
  obtain ⟨u, rfl⟩ := h
  exact ⟨fun i => if i = 36 then v else u i, by kernel_rfl⟩
theorem BaseOP.put3 {g : Nat} {bd : ByteArray} {e : Int} (a : Act) (v : Value) (h : BaseOP g bd e a) : BaseOP g bd e (a.put (some 3) v) := by
  obtain ⟨u, rfl⟩ := h
  exact ⟨fun i => if i = 3 then v else u i, by kernel_rfl⟩
theorem BaseOP.put4 {g : Nat} {bd : ByteArray} {e : Int} (a : Act) (v : Value) (h : BaseOP g bd e a) : BaseOP g bd e (a.put (some 4) v) := by
  obtain ⟨u, rfl⟩ := h
  exact ⟨fun i => if i = 4 then v else u i, by kernel_rfl⟩
/-- the world while it runs: the tag's block -/
def CO (w0 : World) (cs : Array Value) (w : World) : Prop := Blk w w0.heap.size cs 34 ∧ Below w0.heap.size w0 w
theorem CO.drew {w0 w : World} {cs : Array Value} (h : CO w0 cs w) : CO w0 cs w.drew := ⟨h.1.drew, h.2.drew⟩
theorem CO.put {w0 w : World} {cs ds : Array Value} (h : CO w0 cs w) : CO w0 ds (w.setRow w0.heap.size ds) := ⟨h.1.put _, below_put (Nat.le_refl _) _ h.2⟩
/-- what a function of three results gives, the first in a block of its own -/
theorem results_cell_tmp2 {P : Program} {fn : Func} {p q r : Tmp} {ty : TypeId} (h : fn.results = #[.cell p ty, .tmp q, .tmp r]) (tmps : Array Value) (w : World) (g : Nat) (t : TypeId) (cs : Array Value) (d : TypeDesc)
    (hp : tmps.getD p undef = .pointer (some ⟨g, 0, none⟩)) (hg : Blk w g cs t)
    (hu : P.underlying ty = some d) (hd : (match d with | .struct _ | .array _ _ => true | _ => false) = true) (hi : (P.info? ty).map (·.size) = some cs.size) :
    (results fn tmps).run P w = .ok (.tuple #[.agg cs, tmps.getD q undef, tmps.getD r undef]) w := by
  have hp' : tmps[p]?.getD undef = .pointer (some ⟨g, 0, none⟩) := by simpa using hp
  simp [results, h, hp', asAddr, run_loadVar_row w g t ty cs (0, 0) d hg hu hd hi]

set_option maxHeartbeats 2000000 in
theorem fr_opened (o : ByteArray) (w : World) (h32 : 32 ≤ o.size) (h280 : o.size ≤ 280) (hT : Tabs w) : Calls Tryd.prog 31 #[.string o] w (OpnPost o w) := by
  unfold OpnPost
  obtain ⟨n, hn⟩ : ∃ n, o.size - 4 = n := ⟨_, rfl⟩
  have hni : (o.size : Int) - 4 = (n : Int) := by omega
  obtain ⟨bd, hbd⟩ : ∃ x, o.extract 0 n = x := ⟨_, rfl⟩
  have hbz : bd.size = n := by rw [← hbd, ByteArray.size_extract]; omega
  obtain ⟨t4, ht4⟩ : ∃ x, o.extract n o.size = x := ⟨_, rfl⟩
  have hx : o.extract 0 16 = bd.extract 0 16 := by rw [← hbd, ByteArray.extract_extract]; congr 1; omega
  have hd : o.extract 16 (o.size - 8) = bd.extract 16 (n - 4) := by rw [← hbd, ByteArray.extract_extract]; congr 1 <;> omega
  obtain ⟨x, hxx⟩ : ∃ x, bd.extract 0 16 = x := ⟨_, rfl⟩
  obtain ⟨dt, hdt⟩ : ∃ x, bd.extract 16 (n - 4) = x := ⟨_, rfl⟩
  obtain ⟨wh, hwh⟩ : ∃ b, wholeB bd = b := ⟨_, rfl⟩
  have hx16 : x.size = 16 := by rw [← hxx, ByteArray.size_extract]; omega
  have HHP : Hid (HoldsPage o ↔ OkT x ∧ t4 = four0 ∧ wh = true) := by show HoldsPage o ↔ _; unfold HoldsPage; rw [hx, hxx, hn, ht4, hbd, hwh]
  rw [hx, hxx, hd, hdt]
  have HBD := Lib.hid hbd
  have HT4 := Lib.hid ht4
  have HX := Lib.hid hxx
  have HDT := Lib.hid hdt
  have HWH := Lib.hid hwh
  have HT := Lib.hid hT
  have hn4 : 28 ≤ n := by omega
  have hn4u : n ≤ 276 := by omega
  have hni4 : (n : Int) - 4 = ((n - 4 : Nat) : Int) := by omega
  clear hx hd hbd ht4 hxx hdt hwh hT hn
  have hmin : min n o.size = n := by omega
  by_cases ht : t4 = four0
  · have hq : ((o.extract n o.size).toList == [0, 0, 0, 0]) = true := by rw [HT4.out, ht]; simp [four0]
    go_enter Tryd.func31, Tryd.ntmps31
    go_wp2_with fail
    rw [HBD.out]
    refine (whole_any bd _ (by omega) ((HT.out.after ((Below.refl _ _).alloc (Nat.le_refl _) _)).2)).mono ?_
    rintro r w2 ⟨rfl, hb2⟩
    rw [HWH.out]
    have HB2 : Hid (Below w.heap.size w w2) := ((Below.refl _ _).alloc (Nat.le_refl _) _).trans (hb2.mono (by simp))
    have HK2 := Lib.hid ((Blk.new w (ta 0 0 0 0) 34).after hb2)
    clear hb2
    cases wh with
    | false =>
      have HN : Hid (¬ HoldsPage o) := by
        show ¬ HoldsPage o
        intro h
        have h2 := (HHP.out.1 h).2.2
        cases h2
      go_wp2_with (refine wpList_store_row rfl 34 (.tmp 2) (.tmp 22) rfl w.heap.size (ta 0 0 0 0) rfl rfl 34 (ta 0 0 0 0) HK2.out size_tag rfl (ta_one _ _ _ _) ?_)
      exact bodyPost_ret (results_cell_tmp2 (P := Tryd.prog) rfl _ _ w.heap.size 34 (ta 0 0 0 0) _ rfl (HK2.out.put _) Tryd.underlying34 rfl size_tag) rfl ⟨⟨_, _, _, _, _, _, rfl, (decide_eq_false HN.out).symm, fun h => absurd h HN.out⟩, below_put (Nat.le_refl _) _ HB2.out⟩
    | true =>
      obtain ⟨e, he⟩ : ∃ e, decE x = e := ⟨_, rfl⟩
      obtain ⟨b, hb⟩ : ∃ b, (e == 0) = b := ⟨_, rfl⟩
      obtain ⟨m, hm⟩ : ∃ m, n - 4 = m := ⟨_, rfl⟩
      rw [hm] at hni4
      have h16 : (16 : Int) ≤ (m : Int) := by omega
      have hmn : m ≤ n := by omega
      have hwm : IntKind.i64.wrap (m : Int) = m := by rw [IntKind.wrap_i64]; omega
      have HDTm : Hid (bd.extract 16 m = dt) := by show bd.extract 16 m = dt; rw [← hm]; exact HDT.out
      obtain ⟨k', l', q', e', hA⟩ : ∃ k' l' q' e', decA x = ta k' l' q' e' := by
        unfold decA
        split
        · exact ⟨_, _, _, _, rfl⟩
        · exact ⟨_, _, _, _, rfl⟩
      have HBO : Hid (b = decide (HoldsPage o) ∧ (HoldsPage o → ta k' l' q' e' = ta (byteT x 1) (lT x) (qT x) (eT x) ∧ dt = dt)) := by
        show b = decide (HoldsPage o) ∧ (HoldsPage o → ta k' l' q' e' = ta (byteT x 1) (lT x) (qT x) (eT x) ∧ dt = dt)
        refine ⟨?_, fun h => ⟨hA.symm.trans (decA_ok (HHP.out.1 h).1), rfl⟩⟩
        rw [← hb, Bool.eq_iff_iff, beq_iff_eq, decide_eq_true_eq, HHP.out, ← he]
        unfold decE
        by_cases hok : OkT x
        · rw [if_pos hok]; exact ⟨fun _ => ⟨hok, ht, rfl⟩, fun _ => rfl⟩
        · rw [if_neg hok]; exact ⟨fun h => absurd h (by decide), fun h => absurd h.1 hok⟩
      have HA := Lib.hid hA
      have HE := Lib.hid he
      clear he hA hm
      go_wp2_with fail
      rw [HX.out]
      refine (tag_dec x _ (by rw [hx16]; decide)).mono ?_
      rintro r w3 ⟨rfl, hb3⟩
      rw [HA.out, HE.out]
      have HB3 : Hid (Below w.heap.size w w3) := HB2.out.trans (hb3.mono HB2.out.size)
      have HK3 := Lib.hid (HK2.out.after hb3)
      clear hb3
      go_wp2_with (refine wpList_store_row rfl 34 (.tmp 2) (.tmp 27) rfl w.heap.size (ta k' l' q' e') rfl rfl 34 (ta 0 0 0 0) HK3.out size_tag rfl (ta_one _ _ _ _) ?_)
      have HC : Hid (CO w (ta k' l' q' e') (w3.setRow w.heap.size (ta k' l' q' e'))) := CO.put (cs := ta 0 0 0 0) ⟨HK3.out, HB3.out⟩
      refine wp_region_list3 (SV (vsOP k' l' q' e' bd dt n m e b) []) (BaseOP w.heap.size bd e) (CO w (ta k' l' q' e')) (fun _ _ => True) (RV (vsOP k' l' q' e' bd dt n m e b) (fun _ _ _ => True)) rfl (by kernel_rfl) (RV.ext (fun _ _ _ _ _ _ _ _ => trivial)) ?base HC.out.drew (BaseOP.of _ (by kernel_rfl)) ?steps ?fin
      case base => exact ⟨BaseOP.put29, BaseOP.put30, BaseOP.put31, BaseOP.put32, BaseOP.put33, BaseOP.put34, BaseOP.put35, BaseOP.put36, fun a v h => h, BaseOP.put3, BaseOP.put4, trivial⟩
      case steps =>
        refine ⟨?_, ?_, ?_, ?_, ?_, ?_, ?_, ?_, ?_, ?_, ?_, trivial⟩
        all_goals
          intro a w' hC hB hR
          obtain ⟨u, rfl⟩ := hB
          have HC := Lib.hid hC
          clear hC
        · clear hR
          refine if_yes (by kernel_rfl) ?_
          exact wp_load_row 34 (.tmp 2) rfl _ rfl 34 _ (0, 0) _ HC.out.1 Tryd.underlying34 rfl size_tag ⟨.agg (ta k' l' q' e'), rfl, HC.out, trivial, rfl⟩
        · clear hR
          refine if_yes (by kernel_rfl) ?_
          unfold Oper.wp
          go_simp
          exact ⟨.string bd, rfl, HC.out, trivial, rfl⟩
        · clear hR
          refine if_yes (by kernel_rfl) ?_
          unfold Oper.wp
          go_simp
          exact ⟨.string bd, rfl, HC.out, trivial, rfl⟩
        · have h31 : u 31 = .string bd := hR ⟨2, .data⟩ (by simp) rfl
          clear hR
          simp only [h31]
          clear h31
          refine if_yes (by kernel_rfl) ?_
          unfold Oper.wp
          go_simp
          exact ⟨.int .i64 n, rfl, HC.out, trivial, rfl⟩
        · have h32 : u 32 = .int .i64 n := hR ⟨3, .data⟩ (by simp) rfl
          clear hR
          simp only [h32]
          clear h32
          refine if_yes (by kernel_rfl) ?_
          unfold Oper.wp
          go_simp
          exact ⟨.int .i64 (m : Int), rfl, HC.out, trivial, rfl⟩
        · have hdt := HDTm.out
          have h30 : u 30 = .string bd := hR ⟨1, .data⟩ (by simp) rfl
          have h33 : u 33 = .int .i64 (m : Int) := hR ⟨4, .data⟩ (by simp) rfl
          clear hR
          simp only [h30, h33]
          clear h30 h33
          refine if_yes (by kernel_rfl) ?_
          unfold Oper.wp
          go_simp
          exact ⟨.string dt, rfl, HC.out, trivial, rfl⟩
        · clear hR
          refine if_yes (by kernel_rfl) ?_
          unfold Oper.wp
          go_simp
          exact ⟨.int .i64 e, rfl, HC.out, trivial, rfl⟩
        · have h35 : u 35 = .int .i64 e := hR ⟨6, .data⟩ (by simp) rfl
          clear hR
          simp only [h35]
          clear h35
          refine if_yes (by kernel_rfl) ?_
          unfold Oper.wp
          go_simp
          exact ⟨.bool b, rfl, HC.out, trivial, rfl⟩
        · have h29 : u 29 = .agg (ta k' l' q' e') := hR ⟨0, .data⟩ (by simp) rfl
          clear hR
          simp only [h29]
          clear h29
          refine if_yes (by kernel_rfl) ?_
          exact wp_store_row 34 (.tmp 2) (.tmp 29) rfl w.heap.size (ta k' l' q' e') rfl rfl 34 (ta k' l' q' e') HC.out.1 size_tag rfl (ta_one _ _ _ _) ⟨undef, rfl, HC.out.put, trivial, trivial⟩
        · have h34 : u 34 = .string dt := hR ⟨5, .data⟩ (by simp) rfl
          clear hR
          simp only [h34]
          clear h34
          refine if_yes (by kernel_rfl) ?_
          unfold Oper.wp
          go_simp
          exact ⟨.string dt, rfl, HC.out, trivial, rfl⟩
        · have h36 : u 36 = .bool b := hR ⟨7, .data⟩ (by simp) rfl
          clear hR
          simp only [h36]
          clear h36
          refine if_yes (by kernel_rfl) ?_
          unfold Oper.wp
          go_simp
          exact ⟨.bool b, rfl, HC.out, trivial, rfl⟩
      case fin =>
        intro a w' hC hB hR
        obtain ⟨u, rfl⟩ := hB
        have h3 : u 3 = .string dt := hR 9 (by decide)
        have h4 : u 4 = .bool b := hR 10 (by decide)
        clear hR
        simp only [h3, h4]
        clear h3 h4
        have HC := Lib.hid hC
        clear hC
        go_wp2_with fail
        exact bodyPost_ret (results_cell_tmp2 (P := Tryd.prog) rfl _ _ w.heap.size 34 (ta k' l' q' e') _ rfl HC.out.1 Tryd.underlying34 rfl size_tag) rfl ⟨⟨_, _, _, _, _, _, rfl, HBO.out.1, fun h => ⟨(HBO.out.2 h).1, rfl⟩⟩, HC.out.2⟩
  · have hq : ((o.extract n o.size).toList == [0, 0, 0, 0]) = false := by
      rw [HT4.out, Bool.eq_false_iff]
      intro h
      have h2 : t4.toList = [0, 0, 0, 0] := by simpa using h
      exact ht (text_same (b := four0) (by rw [h2]; simp [four0]))
    have HN : Hid (¬ HoldsPage o) := fun h => ht (HHP.out.1 h).2.1
    go_enter Tryd.func31, Tryd.ntmps31
    go_wp2_with (refine wpList_store_row rfl 34 (.tmp 2) (.tmp 22) rfl w.heap.size (ta 0 0 0 0) rfl rfl 34 (ta 0 0 0 0) (Blk.new w _ _) size_tag rfl (ta_one _ _ _ _) ?_)
    exact bodyPost_ret (results_cell_tmp2 (P := Tryd.prog) rfl _ _ w.heap.size 34 (ta 0 0 0 0) _ rfl ((Blk.new w _ _).put _) Tryd.underlying34 rfl size_tag) rfl ⟨⟨_, _, _, _, _, _, rfl, (decide_eq_false HN.out).symm, fun h => absurd h HN.out⟩, below_put (Nat.le_refl _) _ ((Below.refl _ _).alloc (Nat.le_refl _) _)⟩

end Go.Proofs.YtjmoecfgpfdncaaDoor

/- Package frame, walked: Decode; with Encode, Blank, Hurt all that the laws of layer 5 ask of it. -/
namespace Go.Proofs.YtjmoecfgpfdncaaDoor
set_option maxRecDepth 100000
open Go.RowKit

theorem ta_inj {k l q e k' l' q' e' : Int} (h : ta k l q e = ta k' l' q' e') : k = k' ∧ l = l' ∧ q = q' ∧ e = e' := by simpa [ta] using h

theorem wp_page {o : Oper} {a : Act} {w : World} {K : Act → World → Prop} {Q : Exit → Act → World → Prop} (x y z : Operand) (ho : o.op = .build 36 #[(0, x), (1, y), (2, z)])
    (f k l q e : Int) (d : ByteArray) (hx : a.eval x = .int .i64 f) (hy : a.eval y = .agg (ta k l q e)) (hz : a.eval z = .string d) (h : K (a.put o.dst (.agg (pv f k l q e d))) w) : o.wp Tryd.prog a w K Q := by
  have hb := build_page f k l q e d w
  unfold Oper.wp execOp
  simp only [ho, List.map_toArray, List.map_cons, List.map_nil, hx, hy, hz, Sem.run_bind, hb, Result.andThen_ok, Sem.run_pure]
  exact h
theorem wpList_page {ops : Array Oper} {rest : List Oper} {o : Oper} {a : Act} {w : World} {Q : Exit → Act → World → Prop} (hgd : o.guard = none) (x y z : Operand) (ho : o.op = .build 36 #[(0, x), (1, y), (2, z)])
    (f k l q e : Int) (d : ByteArray) (hx : a.eval x = .int .i64 f) (hy : a.eval y = .agg (ta k l q e)) (hz : a.eval z = .string d) (h : wpList Tryd.prog ops Q rest (a.put o.dst (.agg (pv f k l q e d))) w) : wpList Tryd.prog ops Q (o :: rest) a w :=
  wpList_plain hgd fun _ hK => wp_page x y z ho f k l q e d hx hy hz (hK _ _ h)

theorem fr_dec_shape (s : ByteArray) (w : World) (hm : s.size ≤ 400) (h : ¬ ShapeOk s.size) : Calls Tryd.prog 13 #[.string s] w (FrDec s w) := by
  unfold FrDec
  rw [pageV_shape h]
  have HD : Hid (decide (ShapeOk s.size) = false) := decide_eq_false h
  clear h
  go_enter Tryd.func13, Tryd.ntmps13
  go_wp2_with fail
  refine (fr_chunks s.size _ (by omega)).mono ?_
  rintro r w1 ⟨rfl, rfl⟩
  rw [HD.out]
  go_wp2_with (refine wpList_store_row rfl 36 (.tmp 2) (.tmp 12) rfl w.heap.size P4 rfl rfl 36 P0 (Blk.new w P0 36) size_page rfl (pv_one _ _ _ _ _ _) ?_)
  exact bodyPost_ret (results_cell_row (P := Tryd.prog) rfl _ _ w.heap.size 36 P4 (0, 0) _ rfl ((Blk.new w P0 36).put P4) Tryd.underlying36 rfl size_page) rfl ⟨rfl, below_put (Nat.le_refl _) _ ((Below.refl _ _).alloc (Nat.le_refl _) _)⟩

set_option maxHeartbeats 1000000 in
theorem fr_dec_on (s : ByteArray) (w : World) (hm : s.size ≤ 400) (h : ShapeOk s.size) (hT : Tabs w) : Calls Tryd.prog 13 #[.string s] w (FrDec s w) := by
  unfold FrDec
  have HD : Hid (decide (ShapeOk s.size) = true) := decide_eq_true h
  have hd9 : 9 * (s.size / 9) = s.size := by have := h.1; omega
  have hc4 : 4 ≤ s.size / 9 := by have := h.2.1; omega
  have hc35 : s.size / 9 ≤ 35 := by have := h.2.2; omega
  have HH := Lib.hid h
  have HT := Lib.hid hT
  clear hT h
  cases hb : blankTo s (s.size / 9) with
  | true =>
    have HPV : Hid (pageV s = P1) := pageV_blank HH.out hb
    have HB := Lib.hid hb
    clear hb
    go_enter Tryd.func13, Tryd.ntmps13
    go_wp2_with fail
    refine (fr_chunks s.size _ (by omega)).mono ?_
    rintro r w1 ⟨rfl, rfl⟩
    rw [HD.out]
    go_wp2_with fail
    refine (fr_isBlank s _ hm hd9).mono ?_
    rintro r w2 ⟨rfl, hb2⟩
    rw [HB.out]
    have HB2 : Hid (Below w.heap.size w w2) := ((Below.refl _ _).alloc (Nat.le_refl _) _).trans (hb2.mono (by simp))
    have HK2 := Lib.hid ((Blk.new w P0 36).after hb2)
    clear hb2
    go_wp2_with (refine wpList_store_row rfl 36 (.tmp 2) (.tmp 15) rfl w.heap.size P1 rfl rfl 36 P0 HK2.out size_page rfl (pv_one _ _ _ _ _ _) ?_)
    exact bodyPost_ret (results_cell_row (P := Tryd.prog) rfl _ _ w.heap.size 36 P1 (0, 0) _ rfl (HK2.out.put P1) Tryd.underlying36 rfl size_page) rfl ⟨by rw [HPV.out], below_put (Nat.le_refl _) _ HB2.out⟩
  | false =>
    have HBad := Lib.hid (@pageV_bad s HH.out hb)
    have HNone := Lib.hid (@pageV_none s HH.out hb)
    have HPage := Lib.hid (@pageV_page s HH.out hb)
    have HB := Lib.hid hb
    clear hb
    go_enter Tryd.func13, Tryd.ntmps13
    go_wp2_with fail
    refine (fr_chunks s.size _ (by omega)).mono ?_
    rintro r w1 ⟨rfl, rfl⟩
    rw [HD.out]
    go_wp2_with fail
    refine (fr_isBlank s _ hm hd9).mono ?_
    rintro r w2 ⟨rfl, hb2⟩
    rw [HB.out]
    have HB2 : Hid (Below w.heap.size w w2) := ((Below.refl _ _).alloc (Nat.le_refl _) _).trans (hb2.mono (by simp))
    have HK2 := Lib.hid ((Blk.new w P0 36).after hb2)
    clear hb2
    go_wp2_with fail
    refine (fr_unpacked s _ hm hd9 (HT.out.after HB2.out)).mono ?_
    rintro r w3 ⟨⟨t, v, rfl, hbad, hgood⟩, hb3⟩
    have HB3 : Hid (Below w.heap.size w w3) := HB2.out.trans (hb3.mono HB2.out.size)
    have HK3 := Lib.hid (HK2.out.after hb3)
    clear hb3
    cases hbt : badTo s (s.size / 9) with
    | true =>
      obtain rfl := hbad hbt
      have HPV : Hid (pageV s = P4) := HBad.out hbt
      clear hbad hgood hbt
      go_wp2_with (refine wpList_store_row rfl 36 (.tmp 2) (.tmp 23) rfl w.heap.size P4 rfl rfl 36 P0 HK3.out size_page rfl (pv_one _ _ _ _ _ _) ?_)
      exact bodyPost_ret (results_cell_row (P := Tryd.prog) rfl _ _ w.heap.size 36 P4 (0, 0) _ rfl (HK3.out.put P4) Tryd.underlying36 rfl size_page) rfl ⟨by rw [HPV.out], below_put (Nat.le_refl _) _ HB3.out⟩
    | false =>
      obtain ⟨ht, hv⟩ := hgood hbt
      have hsz := heldTo_size s (s.size / 9) (by omega) hbt
      rw [← ht] at hsz
      have HPN : Hid (¬ HoldsPage t → pageV s = P4) := fun hn => HNone.out hbt (by rw [← ht]; exact hn)
      have HPO : Hid (HoldsPage t → pageV s = pageOf s t (s.size / 9)) := fun hn => by
        have h := HPage.out hbt (by rw [← ht]; exact hn)
        rwa [← ht] at h
      have hv4 : v ≠ 4 := by rw [hv]; unfold toldTo; split <;> decide
      have HV := Lib.hid hv
      clear hbad hgood hbt ht hv
      go_wp2_with fail
      refine (fr_opened t _ (by omega) (by omega) (HT.out.after HB3.out)).mono ?_
      rintro r w4 ⟨⟨k', l', q', e', dt, ok, rfl, hok, hpg⟩, hb4⟩
      have HB4 : Hid (Below w.heap.size w w4) := HB3.out.trans (hb4.mono HB3.out.size)
      have HK4 := Lib.hid ((HK3.out.after hb4).alloc (.cells (ta 0 0 0 0) 34))
      have hne : w4.heap.size ≠ w.heap.size := by have h := (HK3.out.after hb4).lt; omega
      have HNE := Lib.hid hne
      clear hb4 hne
      by_cases hh : HoldsPage t
      · obtain rfl : ok = true := hok.trans (decide_eq_true hh)
        obtain ⟨hcs, hdt⟩ := hpg hh
        have HPV : Hid (pageV s = pv v k' l' q' e' dt) := by
          show pageV s = pv v k' l' q' e' dt
          rw [HPO.out hh, HV.out, hdt]
          unfold pageOf
          obtain ⟨h1, h2, h3, h4⟩ := ta_inj hcs
          rw [h1, h2, h3, h4]
        clear hok hpg hh hcs hdt
        have HT5 := Lib.hid ((Blk.new w4 (ta 0 0 0 0) 34).put (ta k' l' q' e'))
        have HP5 := Lib.hid (HK4.out.put_other HNE.out (ta k' l' q' e'))
        go_wp2_with (first
          | (refine wpList_page rfl (.tmp 33) (.tmp 34) (.tmp 35) rfl v k' l' q' e' dt rfl rfl rfl ?_)
          | (refine wpList_load_row rfl 34 (.tmp 5) rfl w4.heap.size rfl 34 (ta k' l' q' e') (0, 0) _ HT5.out Tryd.underlying34 rfl size_tag ?_)
          | (refine wpList_store_row rfl 34 (.tmp 5) (.tmp 27) rfl w4.heap.size (ta k' l' q' e') rfl rfl 34 (ta 0 0 0 0) (Blk.new w4 (ta 0 0 0 0) 34) size_tag rfl (ta_one _ _ _ _) ?_)
          | (refine wpList_store_row rfl 36 (.tmp 2) (.tmp 36) rfl w.heap.size (pv v k' l' q' e' dt) rfl rfl 36 P0 HP5.out size_page rfl (pv_one _ _ _ _ _ _) ?_))
        exact bodyPost_ret (results_cell_row (P := Tryd.prog) rfl _ _ w.heap.size 36 (pv v k' l' q' e' dt) (0, 0) _ rfl (HP5.out.put _) Tryd.underlying36 rfl size_page) rfl ⟨by rw [HPV.out], below_put (Nat.le_refl _) _ (below_put HB4.out.size _ (HB4.out.alloc HB4.out.size _))⟩
      · obtain rfl : ok = false := hok.trans (decide_eq_false hh)
        have HPV : Hid (pageV s = P4) := HPN.out hh
        clear hok hpg hh
        go_wp2_with (first
          | (refine wpList_store_row rfl 34 (.tmp 5) (.tmp 27) rfl w4.heap.size (ta k' l' q' e') rfl rfl 34 (ta 0 0 0 0) (Blk.new w4 (ta 0 0 0 0) 34) size_tag rfl (ta_one _ _ _ _) ?_)
          | (refine wpList_store_row rfl 36 (.tmp 2) (.tmp 32) rfl w.heap.size P4 rfl rfl 36 P0 (HK4.out.put_other HNE.out _) size_page rfl (pv_one _ _ _ _ _ _) ?_))
        exact bodyPost_ret (results_cell_row (P := Tryd.prog) rfl _ _ w.heap.size 36 P4 (0, 0) _ rfl ((HK4.out.put_other HNE.out _).put P4) Tryd.underlying36 rfl size_page) rfl ⟨by rw [HPV.out], below_put (Nat.le_refl _) _ (below_put HB4.out.size _ (HB4.out.alloc HB4.out.size _))⟩

theorem fr_dec (s : ByteArray) (w : World) (hm : s.size ≤ 400) (hT : Tabs w) : Calls Tryd.prog 13 #[.string s] w (FrDec s w) := by
  by_cases h : ShapeOk s.size
  · exact fr_dec_on s w hm h hT
  · exact fr_dec_shape s w hm h

end Go.Proofs.YtjmoecfgpfdncaaDoor

/- Layer 8, the laws: pages of a number. -/
namespace Go.Proofs.YtjmoecfgpfdncaaDoor
set_option maxRecDepth 100000
open Go.RowKit

def byte8 (n : Nat) : ByteArray := ⟨(List.replicate 8 (UInt8.ofNat n)).toArray⟩
/-- the page of a number -/
def pgS (n : Nat) : ByteArray := pageS 1 n n 0 (byte8 n)
theorem rep_eight (n : Nat) : (⟨(Lib.repeatL (⟨#[UInt8.ofNat n]⟩ : ByteArray).data.toList 8).toArray⟩ : ByteArray) = byte8 n := rfl
theorem byte8_size (n : Nat) : (byte8 n).size = 8 := rfl
theorem pgS_size (n : Nat) : (pgS n).size = 36 := by unfold pgS; rw [pageS_size, byte8_size]
theorem and_small : ∀ n : Fin 101, bits .and .i64 ((n.val : Nat) : Int) 4095 = ((n.val : Nat) : Int) ∧ bits .and .i64 ((n.val : Nat) : Int) 65535 = ((n.val : Nat) : Int) := by decide
theorem conv_one (n : Nat) (w : World) : Sem.run Tryd.prog (convert 55 9 (.slice (some ⟨w.heap.size, 0, none⟩) 1 1)) (w.alloc (.cells #[.int .u8 (n : Nat)] 5)) = .ok (.string ⟨#[UInt8.ofNat n]⟩) (w.alloc (.cells #[.int .u8 (n : Nat)] 5)) := by
  have h : BytesAt (w.alloc (.cells #[.int .u8 (n : Nat)] 5)) w.heap.size [(n : Int)] := by
    intro i hi
    obtain rfl : i = 0 := by simpa using hi
    exact (Blk.new w #[.int .u8 (n : Nat)] 5).cell 0
  have h2 := h.conv (P := Tryd.prog) (src := 55) (e := 5) (dst := 9) Tryd.underlying55 Tryd.underlying5 Tryd.underlying9 1 1 rfl
  rw [h2]
  rfl
theorem ce_pageOf (n : Nat) (w : World) (hn : n ≤ 100) (hT : Tabs w) : Calls Tryd.prog 9 #[.int .i64 (n : Nat)] w fun e w' => e = .returned (.string (pgS n)) ∧ Below w.heap.size w w' := by
  have HT := Lib.hid hT
  have hm : MayT 1 n n 0 := ⟨by omega, by omega, by omega, by omega, by omega, by omega, by omega, by omega⟩
  have hlo : LenOk (byte8 n).size := by rw [byte8_size]; exact ⟨by omega, by omega, by omega⟩
  have HF : Hid (frT 1 n n 0 (byte8 n) = pgS n) := if_pos ⟨hlo, hm⟩
  have hb := and_small ⟨n, by omega⟩
  simp only at hb
  obtain ⟨hb1, hb2⟩ := hb
  have hcv := conv_one n w
  clear hT hm hlo
  go_enter Tryd.func9, Tryd.ntmps9
  go_wp2_with fail
  refine (Any.strings_Repeat Tryd.lays105 Tryd.Builder_Extra_105 _ 8 _ (by omega) (by show 1 * 8 ≤ _; omega)).mono ?_
  rintro r w1 ⟨rfl, hb1⟩
  rw [rep_eight]
  have HB1 : Hid (Below w.heap.size w w1) := ((Below.refl _ _).alloc (Nat.le_refl _) _).trans (hb1.mono (by simp))
  clear hb1 hcv
  go_wp2_with fail
  refine (fr_enc 1 n n 0 (byte8 n) _ (by rw [byte8_size]; decide) (HT.out.after HB1.out)).mono ?_
  rintro r w2 ⟨rfl, hb2⟩
  rw [HF.out]
  have HB2 := Lib.hid (HB1.out.trans (hb2.mono HB1.out.size))
  clear hb2
  go_wp2_with fail
  go_ret
  exact ⟨rfl, HB2.out⟩

end Go.Proofs.YtjmoecfgpfdncaaDoor

/- Pages with two bits turned in one chunk, and at most one in each other; pages turned chunk by chunk. No Go in sight. -/
namespace Go.Proofs.YtjmoecfgpfdncaaDoor
set_option maxRecDepth 100000
open Go.RowKit

abbrev bad0 : Array Value := pv 4 0 0 0 0 ByteArray.empty
/-- two bits of one chunk turned -/
def flip2 (x : ByteArray) (a p q : Nat) : ByteArray := flipS (flipS x (9 * a + p / 8) (p % 8)) (9 * a + q / 8) (q % 8)
theorem flip2_size (x : ByteArray) (c a p q : Nat) (hx : x.size = 9 * c) (ha : a < c) (hp : p < 72) (hq : q < 72) : (flip2 x a p q).size = 9 * c := by
  unfold flip2
  have h1 : (flipS x (9 * a + p / 8) (p % 8)).size = 9 * c := by rw [flipS_size _ _ _ (by omega), hx]
  rw [flipS_size _ _ _ (by omega), h1]
theorem flip2_same (x : ByteArray) (c a p q : Nat) (hx : x.size = 9 * c) (ha : a < c) (hp : p < 72) (hq : q < 72) : piece (flip2 x a p q) 9 a = flipS (flipS (piece x 9 a) (p / 8) (p % 8)) (q / 8) (q % 8) := by
  unfold flip2
  have h1 : (flipS x (9 * a + p / 8) (p % 8)).size = 9 * c := by rw [flipS_size _ _ _ (by omega), hx]
  rw [piece_flip_same _ _ _ _ (by omega) (by omega), piece_flip_same _ _ _ _ (by omega) (by omega)]
theorem flip2_other (x : ByteArray) (c a m p q : Nat) (hx : x.size = 9 * c) (ha : a < c) (hp : p < 72) (hq : q < 72) (hne : m ≠ a) : piece (flip2 x a p q) 9 m = piece x 9 m := by
  unfold flip2
  have h1 : (flipS x (9 * a + p / 8) (p % 8)).size = 9 * c := by rw [flipS_size _ _ _ (by omega), hx]
  rw [piece_flip_other _ _ _ _ _ (by omega) (by omega) hne, piece_flip_other _ _ _ _ _ (by omega) (by omega) hne]
theorem zs_flip2 (s : ByteArray) (p q : Nat) (hs : s.size = 9) (hp : p < 72) (hq : q < 72) : zs (bs s) ≤ zs (bs (flipS (flipS s (p / 8) (p % 8)) (q / 8) (q % 8))) + 2 := by
  have h1 := (zs_flip s (p / 8) (p % 8) (by omega) (by omega)).2
  have hz : (flipS s (p / 8) (p % 8)).size = 9 := by rw [flipS_size _ _ _ (by omega), hs]
  have h2 := (zs_flip (flipS s (p / 8) (p % 8)) (q / 8) (q % 8) (by omega) (by omega)).2
  omega
theorem dec_two' (s : ByteArray) (p q : Nat) (hs : s.size = 8) (hp : p < 72) (hq : q < 72) (hne : p ≠ q) : (decS (flipS (flipS (encS s) (p / 8) (p % 8)) (q / 8) (q % 8))).2 = 4 := by
  have hz : (encS s).size = 9 := by rw [encS_size, hs]
  have hn : flipS (flipS (encS s) (p / 8) (p % 8)) (q / 8) (q % 8) ≠ encS s := by
    intro h
    have := flipS_ne (encS s) (p / 8) (p % 8) (q / 8) (q % 8) (by omega) (by omega) (by omega) (by omega) (by rw [h])
    omega
  rw [dec_two s hs (p / 8) (p % 8) (q / 8) (q % 8) (by omega) (by omega) (by omega) (by omega) hn]

/-- with two bits turned in one chunk it is told as bad, and with one more in another one -/
def Fragile (x : ByteArray) (c : Nat) : Prop := x.size = 9 * c ∧ ∀ a p q, a < c → p < 72 → q < 72 → p ≠ q → pageV (flip2 x a p q) = bad0 ∧
  ∀ o r, o < c → o ≠ a → r < 72 → pageV (flipS (flip2 x a p q) (9 * o + r / 8) (r % 8)) = bad0
theorem page_fragile {k l q e : Int} (data : ByteArray) (c : Nat) (hl : LenOk data.size) (hc : (data.size + 24) / 8 = c) : Fragile (pageS k l q e data) c := by
  obtain ⟨h8, h256, hmod⟩ := hl
  have hz := inner_size k l q e data
  have hs : (pageS k l q e data).size = 9 * c := by rw [pageS_size]; omega
  have hp : ∀ j, j < c → piece (pageS k l q e data) 9 j = encS (piece (inner k l q e data) 8 j) := by
    intro j hj
    unfold pageS
    rw [hc]
    exact piece_chunks _ c (by omega) j hj
  have hp8 : ∀ j, j < c → (piece (inner k l q e data) 8 j).size = 8 := fun j hj => piece_size _ 8 j (by omega)
  have hp9 : ∀ j, j < c → (piece (pageS k l q e data) 9 j).size = 9 := fun j hj => piece_size _ 9 j (by omega)
  have hf4 : 4 ≤ zs (bs (piece (pageS k l q e data) 9 0)) := by rw [hp 0 (by omega)]; exact first_zeros k l q e data
  refine ⟨hs, fun a p1 q1 ha hp1 hq1 hne => ?_⟩
  have hs2 := flip2_size _ c a p1 q1 hs ha hp1 hq1
  have hsame := flip2_same _ c a p1 q1 hs ha hp1 hq1
  have hbad : (decS (piece (flip2 (pageS k l q e data) a p1 q1) 9 a)).2 = 4 := by
    rw [hsame, hp a ha]; exact dec_two' _ p1 q1 (hp8 a ha) hp1 hq1 hne
  have h0 : (a = 0 → 2 ≤ zs (bs (piece (flip2 (pageS k l q e data) a p1 q1) 9 0))) ∧ (a ≠ 0 → 4 ≤ zs (bs (piece (flip2 (pageS k l q e data) a p1 q1) 9 0))) := by
    constructor
    · intro e0
      subst e0
      rw [hsame]
      have := zs_flip2 (piece (pageS k l q e data) 9 0) p1 q1 (hp9 0 ha) hp1 hq1
      omega
    · intro e0
      rw [flip2_other _ c a 0 p1 q1 hs ha hp1 hq1 (Ne.symm e0)]
      exact hf4
  refine ⟨page_told hs2 (by omega) (by omega) ha (blank_first (by by_cases e0 : a = 0; exact h0.1 e0; have := h0.2 e0; omega) (by omega)) hbad, fun o r ho hoa hr => ?_⟩
  have hs3 : (flipS (flip2 (pageS k l q e data) a p1 q1) (9 * o + r / 8) (r % 8)).size = 9 * c := by rw [flipS_size _ _ _ (by omega), hs2]
  have ho2 := fun m (hm : m ≠ o) => piece_flip_other (flip2 (pageS k l q e data) a p1 q1) o m (r / 8) (r % 8) (by omega) (by omega) hm
  have hos := piece_flip_same (flip2 (pageS k l q e data) a p1 q1) o (r / 8) (r % 8) (by omega) (by omega)
  refine page_told hs3 (by omega) (by omega) ha (blank_first ?_ (by omega)) (by rw [ho2 a (Ne.symm hoa)]; exact hbad)
  by_cases e0 : o = 0
  · subst e0
    rw [hos]
    have h4 := h0.2 (Ne.symm hoa)
    have hz9 : (piece (flip2 (pageS k l q e data) a p1 q1) 9 0).size = 9 := piece_size _ 9 0 (by omega)
    have := (zs_flip (piece (flip2 (pageS k l q e data) a p1 q1) 9 0) (r / 8) (r % 8) (by omega) (by omega)).2
    omega
  · rw [ho2 0 (Ne.symm e0)]
    by_cases e1 : a = 0
    · exact h0.1 e1
    · have := h0.2 e1; omega
theorem blank_first' {s : ByteArray} {c k : Nat} (h : 2 ≤ zs (bs (piece s 9 k))) (hk : k < c) : blankTo s c = false := by
  refine blank_no_later (k := k + 1) ?_ hk
  show (blankTo s k && decide (zs (piece s 9 k).data.toList ≤ 1)) = false
  rw [decide_eq_false (by have : zs (bs (piece s 9 k)) = zs (piece s 9 k).data.toList := rfl; omega), Bool.and_false]
theorem blank_fragile (c : Nat) (hc : 4 ≤ c) (hc2 : c ≤ 35) : Fragile (ffS (9 * c)) c := by
  have hs := ffS_size (9 * c)
  refine ⟨hs, fun a p1 q1 ha hp1 hq1 hne => ?_⟩
  have hs2 := flip2_size _ c a p1 q1 hs ha hp1 hq1
  have hsame := flip2_same _ c a p1 q1 hs ha hp1 hq1
  rw [ff_piece _ _ _ (by omega)] at hsame
  have hb := ff_bad p1 q1 hp1 hq1 hne
  rw [← hsame] at hb
  refine ⟨page_told hs2 hc hc2 ha (blank_first' hb.2 ha) hb.1, fun o r ho hoa hr => ?_⟩
  have hs3 : (flipS (flip2 (ffS (9 * c)) a p1 q1) (9 * o + r / 8) (r % 8)).size = 9 * c := by rw [flipS_size _ _ _ (by omega), hs2]
  have ho2 := piece_flip_other (flip2 (ffS (9 * c)) a p1 q1) o a (r / 8) (r % 8) (by omega) (by omega) (Ne.symm hoa)
  rw [← ho2] at hb
  exact page_told hs3 hc hc2 ha (blank_first' hb.2 ha) hb.1
theorem second_ne (a b : Int) : first72 a < 72 ∧ second72 a b < 72 ∧ first72 a ≠ second72 a b := by
  obtain ⟨p, hp⟩ : ∃ p, first72 a = p := ⟨_, rfl⟩
  obtain ⟨m, hm⟩ : ∃ m, (b % 71).toNat = m := ⟨_, rfl⟩
  have hp72 : p < 72 := by rw [← hp]; unfold first72; omega
  have hm71 : m < 71 := by omega
  have hq : second72 a b = (p + 1 + m) % 72 := by unfold second72; rw [hp, hm]
  rw [hp, hq]; omega
theorem hurt_flip2 {x : ByteArray} {c : Nat} (a b : Int) (h : x.size = 9 * c) (hc : 4 ≤ c) : hurtT x a b = flip2 x 0 (first72 a) (second72 a b) := by
  unfold hurtT flip2
  rw [if_neg (by omega)]
  simp only [Nat.mul_zero, Nat.zero_add]

/-- a page and a blank one, while chunk by chunk a bit is turned in both: k chunks have been looked at -/
def FixI (z : ByteArray) (c k : Nat) (s b : ByteArray) (f : Int) : Prop := ∃ t : Nat → Option (Nat × Nat), OneEach z s c t ∧ (∀ j, k ≤ j → t j = none) ∧ b.size = 9 * c ∧ (∀ j, j < c → zs (bs (piece b 9 j)) ≤ 1) ∧ (∀ j, k ≤ j → j < c → piece b 9 j = ffS 9) ∧ f = if anyTo t c then 3 else 2
theorem anyTo_none (t : Nat → Option (Nat × Nat)) : ∀ k, (∀ j, j < k → t j = none) → anyTo t k = false
  | 0, _ => rfl
  | k + 1, h => by
    show (anyTo t k || (t k).isSome) = false
    rw [anyTo_none t k (fun j hj => h j (by omega)), h k (by omega)]; rfl
theorem anyTo_some (t : Nat → Option (Nat × Nat)) (j : Nat) (h : (t j).isSome = true) : ∀ k, j < k → anyTo t k = true
  | 0, hk => by omega
  | k + 1, hk => by
    show (anyTo t k || (t k).isSome) = true
    by_cases e : j = k
    · subst e; rw [h, Bool.or_true]
    · rw [anyTo_some t j h k (by omega)]; rfl
theorem FixI.start (k l q e : Int) (data : ByteArray) (c : Nat) (hl : LenOk data.size) (hc : (data.size + 24) / 8 = c) : FixI (inner k l q e data) c 0 (pageS k l q e data) (ffS (9 * c)) 2 := by
  obtain ⟨h8, h256, hmod⟩ := hl
  have hz := inner_size k l q e data
  refine ⟨fun _ => none, ⟨by rw [pageS_size]; omega, fun j hj => ?_⟩, fun _ _ => rfl, ffS_size _, fun j hj => ?_, fun j _ hj => ff_piece _ _ _ (by omega), by rw [anyTo_none _ _ (fun _ _ => rfl)]; rfl⟩
  · show piece (pageS k l q e data) 9 j = _
    unfold pageS
    rw [hc]
    exact piece_chunks _ c (by omega) j hj
  · rw [ff_piece _ _ _ (by omega), bs_ff, zs_ff]; omega
theorem FixI.skip {z : ByteArray} {c k : Nat} {s b : ByteArray} {f : Int} (h : FixI z c k s b f) : FixI z c (k + 1) s b f := by
  obtain ⟨t, h1, h2, h3, h4, h5, h6⟩ := h
  exact ⟨t, h1, fun j hj => h2 j (by omega), h3, h4, fun j hj hc => h5 j (by omega) hc, h6⟩
theorem FixI.flip {z : ByteArray} {c k : Nat} {s b : ByteArray} {f : Int} (h : FixI z c k s b f) (hk : k < c) (r : Nat) (hr : r < 72) :
    FixI z c (k + 1) (flipS s (9 * k + r / 8) (r % 8)) (flipS b (9 * k + r / 8) (r % 8)) 3 := by
  obtain ⟨t, h1, h2, h3, h4, h5, h6⟩ := h
  have hs := h1.1
  refine ⟨fun j => if j = k then some (r / 8, r % 8) else t j, ⟨by rw [flipS_size _ _ _ (by omega), hs], fun j hj => ?_⟩, fun j hj => ?_, by rw [flipS_size _ _ _ (by omega), h3], fun j hj => ?_, fun j hj hc => ?_, ?_⟩
  · by_cases e : j = k
    · subst e
      have h7 := h1.2 j hj
      rw [h2 j (Nat.le_refl _)] at h7
      simp only [if_pos]
      refine ⟨by omega, by omega, ?_⟩
      rw [piece_flip_same _ _ _ _ (by omega) (by omega), h7]
    · have h7 := h1.2 j hj
      simp only [if_neg e]
      rw [piece_flip_other _ _ _ _ _ (by omega) (by omega) e]
      exact h7
  · show (if j = k then some (r / 8, r % 8) else t j) = none
    rw [if_neg (by omega)]; exact h2 j (by omega)
  · by_cases e : j = k
    · subst e
      rw [piece_flip_same _ _ _ _ (by omega) (by omega), h5 j (Nat.le_refl _) hj]
      exact ff_one _ _ (by omega) (by omega)
    · rw [piece_flip_other _ _ _ _ _ (by omega) (by omega) e]; exact h4 j hj
  · rw [piece_flip_other _ _ _ _ _ (by omega) (by omega) (by omega)]; exact h5 j (by omega) hc
  · rw [anyTo_some _ k (by simp) c hk]; rfl
theorem FixI.sizes {z : ByteArray} {c k : Nat} {s b : ByteArray} {f : Int} (h : FixI z c k s b f) : s.size = 9 * c ∧ b.size = 9 * c := by
  obtain ⟨t, h1, h2, h3, _⟩ := h
  exact ⟨h1.1, h3⟩
theorem FixI.end {k l q e : Int} {data : ByteArray} {c m : Nat} {s b : ByteArray} {f : Int} (h : FixI (inner k l q e data) c m s b f) (hl : LenOk data.size) (hm : MayT k l q e) (hc : (data.size + 24) / 8 = c) :
    pageV s = pv f k l q e data ∧ pageV b = pv 1 0 0 0 0 ByteArray.empty := by
  obtain ⟨t, h1, h2, h3, h4, h5, h6⟩ := h
  have hl2 := hl
  obtain ⟨h8, h256, hmod⟩ := hl2
  refine ⟨?_, blank_erased h3 (by omega) (by omega) h4⟩
  rw [h6]
  exact page_fixed data s c t hl hm hc h1

end Go.Proofs.YtjmoecfgpfdncaaDoor

/- Layer 8, the laws: what pages of a number, and blank ones, are told as, whole and hurt. -/
namespace Go.Proofs.YtjmoecfgpfdncaaDoor
set_option maxRecDepth 100000
open Go.RowKit

theorem pg_may (n : Nat) (hn : n ≤ 100) : MayT 1 n n 0 := ⟨by omega, by omega, by omega, by omega, by omega, by omega, by omega, by omega⟩
theorem byte8_len (n : Nat) : LenOk (byte8 n).size := by rw [byte8_size]; exact ⟨by decide, by decide, by decide⟩
theorem page_good (n : Nat) (hn : n ≤ 100) : pageV (pgS n) = pv 2 1 n n 0 (byte8 n) := page_back (byte8 n) (byte8_len n) (pg_may n hn)
theorem page_hurt (n : Nat) (a b : Int) : pageV (hurtT (pgS n) a b) = pv 4 0 0 0 0 ByteArray.empty := by
  have hf := page_fragile (k := 1) (l := n) (q := n) (e := 0) (byte8 n) 4 (byte8_len n) (by rw [byte8_size])
  have h2 := second_ne a b
  rw [hurt_flip2 (c := 4) a b (pgS_size n) (by decide)]
  exact (hf.2 0 (first72 a) (second72 a b) (by decide) h2.1 h2.2.1 h2.2.2).1
theorem blank8 : blankS 8 = ffS (9 * 4) := rfl
theorem blank_is : pageV (blankS 8) = pv 1 0 0 0 0 ByteArray.empty := by
  rw [blank8]
  refine blank_erased (c := 4) (ffS_size _) (by decide) (by decide) (fun k hk => ?_)
  rw [ff_piece 36 9 k (by omega), bs_ff, zs_ff]
  decide
theorem blank_hurts (a b : Int) : pageV (hurtT (blankS 8) a b) = pv 4 0 0 0 0 ByteArray.empty := by
  have hf := blank_fragile 4 (by decide) (by decide)
  have h2 := second_ne a b
  rw [blank8, hurt_flip2 (c := 4) a b (ffS_size _) (by decide)]
  exact (hf.2 0 (first72 a) (second72 a b) (by decide) h2.1 h2.2.1 h2.2.2).1

end Go.Proofs.YtjmoecfgpfdncaaDoor

/- Layer 8: what is read of a state that was turned. -/
namespace Go.Proofs.YtjmoecfgpfdncaaDoor
set_option maxRecDepth 100000
open Go.RowKit

theorem put_page (s : St) (i j : Nat) (p : ByteArray) (h : Bool) (hi : i < s.ps.length) : pageAt (putSt s i p h) j = if j = i then p else pageAt s j := by
  unfold pageAt putSt
  simp only [List.getD_eq_getElem?_getD, List.getElem?_set]
  by_cases e : i = j
  · subst e; rw [if_pos rfl, if_pos hi, if_pos rfl]; rfl
  · rw [if_neg e, if_neg (Ne.symm e)]
theorem put_mark (s : St) (i j : Nat) (p : ByteArray) (h : Bool) (hi : i < s.hs.length) : (putSt s i p h).hs.getD j false = if j = i then h else s.hs.getD j false := by
  unfold putSt
  simp only [List.getD_eq_getElem?_getD, List.getElem?_set]
  by_cases e : i = j
  · subst e; rw [if_pos rfl, if_pos hi, if_pos rfl]; rfl
  · rw [if_neg e, if_neg (Ne.symm e)]
theorem ruin_lens (s t : St) (a b k : Int) : ∀ n, (ruinTo s t a b k n).ps.length = t.ps.length ∧ (ruinTo s t a b k n).hs.length = t.hs.length
  | 0 => ⟨rfl, rfl⟩
  | n + 1 => by
    have h := ruin_lens s t a b k n
    constructor
    · simp [ruinTo, putSt, h.1]
    · simp [ruinTo, putSt, h.2]
theorem ruin_page (s t : St) (a b k : Int) (j : Nat) : ∀ n, n ≤ t.ps.length → n ≤ t.hs.length → j < n → pageAt (ruinTo s t a b k n) j = ruinT s a b k j ∧ (ruinTo s t a b k n).hs.getD j false = true
  | 0, _, _, h => absurd h (Nat.not_lt_zero _)
  | n + 1, h1, h2, h => by
    have hl := ruin_lens s t a b k n
    have e1 := put_page (ruinTo s t a b k n) n j (ruinT s a b k n) true (by rw [hl.1]; omega)
    have e2 := put_mark (ruinTo s t a b k n) n j (ruinT s a b k n) true (by rw [hl.2]; omega)
    show pageAt (putSt _ _ _ _) j = _ ∧ (putSt _ _ _ _).hs.getD j false = true
    rw [e1, e2]
    by_cases e : j = n
    · subst e; rw [if_pos rfl, if_pos rfl]; exact ⟨rfl, rfl⟩
    · rw [if_neg e, if_neg e]; exact ruin_page s t a b k j n (by omega) (by omega) (by omega)
theorem end_same (s : St) (k : Int) : (endSt s k).L = s.L ∧ (endSt s k).Y = s.Y ∧ (endSt s k).mode = s.mode ∧ (endSt s k).done = s.done := by
  unfold endSt
  split
  · exact ⟨rfl, rfl, rfl, rfl⟩
  · split <;> exact ⟨rfl, rfl, rfl, rfl⟩
theorem at_hurt {s : St} {j : Nat} (h1 : ¬ pageAt s j = ByteArray.empty) (h2 : s.hs.getD j false = true) : atT s j = pageAt s j := by
  unfold atT
  rw [if_neg h1, if_pos h2]
theorem at_blank {s : St} {j : Nat} (h1 : pageAt s j = ByteArray.empty) : atT s j = blankS s.Y ∧ atH s j = false := by
  unfold atT atH
  rw [if_pos h1, if_pos h1]
  exact ⟨rfl, rfl⟩
theorem full_of_size {p : ByteArray} {n : Nat} (h : p.size = n + 1) : ¬ p = ByteArray.empty := fun he => by rw [he] at h; exact absurd h (by simp)
theorem newSt_ok {l y : Nat} (h1 : 1 ≤ l) (h2 : l ≤ 64) (h3 : LenOk y) : WfSt (newSt l y) := by
  refine ⟨h1, h2, h3, Nat.zero_le _, by simp [newSt], by simp [newSt], fun j => ?_, Or.inl rfl, Nat.zero_le _, Nat.zero_le _⟩
  simp only [newSt, List.getD_eq_getElem?_getD, List.getElem?_replicate]
  split <;> simp

end Go.Proofs.YtjmoecfgpfdncaaDoor

/- Layer 8, the code: its lines, and what they have to do with what the document asks. -/
namespace Go.Proofs.YtjmoecfgpfdncaaDoor
set_option maxRecDepth 100000
open Go.RowKit

/-- a line: its three pages; was it hurt -/
structure Ln where
  p : ByteArray
  q : ByteArray
  r : ByteArray
  h : Bool
def Ln.pt (l : Ln) : Nat → ByteArray
  | 0 => l.p
  | 1 => l.q
  | _ => l.r
def l0 : Ln := ⟨ByteArray.empty, ByteArray.empty, ByteArray.empty, false⟩
def lnAt (ls : List Ln) (i : Nat) : Ln := ls.getD i l0
/-- a line, hurt -/
def hurtL (l : Ln) (a b : Int) : Ln := if l.h = true then l else ⟨hurtT l.p a b, hurtT l.q a b, hurtT l.r a b, true⟩
/-- a line that is written, by how it goes -/
def stepL (p q r : ByteArray) (k a b : Int) : Ln := if hurtsB k = true then ⟨hurtT p a b, hurtT q a b, hurtT r a b, true⟩ else ⟨p, q, r, false⟩
/-- a line as it is read -/
def lnTold (s : St) (ls : List Ln) (i : Nat) : Ln := if isFog s (3 * i) = true then hurtL (lnAt ls i) 0 0 else lnAt ls i
/-- a page as it lies -/
def lieT (s : St) (j : Nat) : ByteArray := if pageAt s j = ByteArray.empty then blankS s.Y else pageAt s j

/-- the code's lines are those of s -/
structure AbsC (s : St) (ls : List Ln) : Prop where
  len : ls.length = s.L
  size : ∀ i t, ((lnAt ls i).pt t).size ≤ 400
  one : ∀ i, i < s.L → (lnAt ls i).p = lieT s (3 * i) ∧ (lnAt ls i).h = s.hs.getD (3 * i) false
  all : s.mode ≠ 1 → ∀ i t, i < s.L → t < 3 → (lnAt ls i).pt t = lieT s (3 * i + t) ∧ (lnAt ls i).h = s.hs.getD (3 * i + t) false
  full : ∀ j, s.hs.getD j false = true → ¬ pageAt s j = ByteArray.empty
  zero : s.mode = 0 → s.done = 0
  fog : s.mode = 2 → ∀ i t, i < s.L → t < 3 → afterC s.L s.done i = 1 → ¬ pageAt s (3 * i + t) = ByteArray.empty

theorem fog_at (s : St) (i t : Nat) (ht : t < 3) : isFog s (3 * i + t) = isFog s (3 * i) := by
  unfold isFog
  rw [show (3 * i + t) / 3 = i by omega, show 3 * i / 3 = i by omega]
theorem hurtL_pt (l : Ln) (a b : Int) (t : Nat) : (hurtL l a b).pt t = if l.h = true then l.pt t else hurtT (l.pt t) a b := by
  unfold hurtL
  split
  · rfl
  · match t with
    | 0 => rfl
    | 1 => rfl
    | _ + 2 => rfl
theorem hurtL_h (l : Ln) (a b : Int) : (hurtL l a b).h = true := by
  unfold hurtL
  split
  · assumption
  · rfl
theorem stepL_pt (p q r : ByteArray) (k a b : Int) : (stepL p q r k a b).p = pageT p k a b ∧ (stepL p q r k a b).q = pageT q k a b ∧ (stepL p q r k a b).r = pageT r k a b ∧ (stepL p q r k a b).h = hurtsB k := by
  unfold stepL pageT
  split
  · rename_i h; exact ⟨rfl, rfl, rfl, h.symm⟩
  · rename_i h; exact ⟨rfl, rfl, rfl, by simpa using h⟩
theorem lnAt_set (ls : List Ln) (i j : Nat) (l : Ln) (hi : i < ls.length) : lnAt (ls.set i l) j = if j = i then l else lnAt ls j := by
  unfold lnAt
  simp only [List.getD_eq_getElem?_getD, List.getElem?_set]
  by_cases e : i = j
  · subst e; rw [if_pos rfl, if_pos hi, if_pos rfl]; rfl
  · rw [if_neg e, if_neg (Ne.symm e)]
theorem fullT {s : St} {p : ByteArray} (h : takesB s p = true) (k a b : Int) : ¬ pageT p k a b = ByteArray.empty := by
  intro he
  have h1 := pageT_size p k a b
  unfold takesB at h
  simp at h
  rw [he, h] at h1
  have : (ByteArray.empty).size = 0 := rfl
  unfold rawOf at h1
  omega

theorem AbsC.same {s t : St} {ls : List Ln} (h : AbsC s ls) (h1 : t.L = s.L) (h2 : t.Y = s.Y) (h3 : t.mode = s.mode) (h4 : t.done = s.done) (h5 : t.ps = s.ps) (h6 : t.hs = s.hs) : AbsC t ls := by
  obtain ⟨L, Y, mode, done, bad, torn, slc, tlc, ps, hs⟩ := s
  obtain ⟨L', Y', mode', done', bad', torn', slc', tlc', ps', hs'⟩ := t
  simp only at h1 h2 h3 h4 h5 h6
  subst h1 h2 h3 h4 h5 h6
  obtain ⟨a1, a2, a3, a4, a5, a6, a7⟩ := h
  exact ⟨a1, a2, a3, a4, a5, a6, a7⟩
theorem AbsC.ended {s : St} {ls : List Ln} (h : AbsC s ls) (k : Int) : AbsC (endSt s k) ls := by
  have e1 := end_same s k
  have e2 := endSt_ps s k
  exact h.same e1.1 e1.2.1 e1.2.2.1 e1.2.2.2 e2.1 e2.2

/-- at first -/
theorem AbsC.fresh {s : St} (hw : WfSt s) (h0 : s.mode = 0) (hd : s.done = 0) (hp : ∀ j, pageAt s j = ByteArray.empty) (hh : ∀ j, s.hs.getD j false = false) :
    AbsC s (List.replicate s.L ⟨blankS s.Y, blankS s.Y, blankS s.Y, false⟩) := by
  have hbl : (blankS s.Y).size ≤ 400 := by rw [blankS_size]; obtain ⟨h1, h2, h3⟩ := hw.y; omega
  have hl : ∀ i, i < s.L → lnAt (List.replicate s.L ⟨blankS s.Y, blankS s.Y, blankS s.Y, false⟩) i = ⟨blankS s.Y, blankS s.Y, blankS s.Y, false⟩ := by
    intro i hi
    unfold lnAt
    rw [List.getD_eq_getElem?_getD, List.getElem?_replicate, if_pos hi]; rfl
  refine ⟨by simp, fun i t => ?_, fun i hi => ?_, fun _ i t hi ht => ?_, fun j hj => ?_, fun _ => hd, fun h2 => ?_⟩
  · by_cases hi : i < s.L
    · rw [hl i hi]
      match t with
      | 0 => exact hbl
      | 1 => exact hbl
      | _ + 2 => exact hbl
    · unfold lnAt
      rw [List.getD_eq_getElem?_getD, List.getElem?_replicate, if_neg hi]
      match t with
      | 0 => exact Nat.zero_le _
      | 1 => exact Nat.zero_le _
      | _ + 2 => exact Nat.zero_le _
  · rw [hl i hi, hh]
    unfold lieT
    rw [if_pos (hp _)]
    exact ⟨rfl, rfl⟩
  · rw [hl i hi, hh]
    unfold lieT
    rw [if_pos (hp _)]
    refine ⟨?_, rfl⟩
    match t with
    | 0 => rfl
    | 1 => rfl
    | _ + 2 => rfl
  · rw [hh] at hj; cases hj
  · rw [h0] at h2; cases h2

/-- what is read -/
theorem AbsC.read1 {s : St} {ls : List Ln} (h : AbsC s ls) (i t : Nat) (hi : i < s.L) (ht : t < 3) (hm : s.mode ≠ 1 ∨ t = 0) : (lnTold s ls i).pt t = atT s (3 * i + t) ∧ (lnTold s ls i).h = atH s (3 * i + t) := by
  have hb : (lnAt ls i).pt t = lieT s (3 * i + t) ∧ (lnAt ls i).h = s.hs.getD (3 * i + t) false := by
    rcases hm with hm | rfl
    · exact h.all hm i t hi ht
    · exact h.one i hi
  have hfull := h.full (3 * i + t)
  have hfog : isFog s (3 * i) = true → ¬ pageAt s (3 * i + t) = ByteArray.empty := by
    intro hf
    unfold isFog at hf
    rw [Bool.and_eq_true, beq_iff_eq, beq_iff_eq, show 3 * i / 3 = i by omega] at hf
    exact h.fog hf.1 i t hi ht hf.2
  unfold lnTold atT atH
  rw [fog_at s i t ht]
  unfold lieT at hb
  by_cases he : pageAt s (3 * i + t) = ByteArray.empty
  · have hf : isFog s (3 * i) = false := by
      cases hq : isFog s (3 * i)
      · rfl
      · exact absurd he (hfog hq)
    have hh : s.hs.getD (3 * i + t) false = false := by
      cases hq : s.hs.getD (3 * i + t) false
      · rfl
      · exact absurd he (hfull hq)
    rw [if_pos he] at hb
    rw [hf, if_neg (by simp), if_pos he, if_pos he, hb.1, hb.2, hh]
    exact ⟨rfl, rfl⟩
  · rw [if_neg he] at hb
    rw [if_neg he, if_neg he]
    cases hh : s.hs.getD (3 * i + t) false with
    | true =>
      rw [hh] at hb
      rw [if_pos rfl, if_pos rfl]
      split
      · rw [hurtL_pt, if_pos hb.2, hb.1, hurtL_h]; exact ⟨rfl, rfl⟩
      · exact hb
    | false =>
      rw [hh] at hb
      cases hf : isFog s (3 * i) with
      | true =>
        simp only [Bool.false_eq_true, if_false, if_true]
        rw [hurtL_pt, hb.2, if_neg (by simp), hb.1, hurtL_h]; exact ⟨rfl, rfl⟩
      | false =>
        simp only [Bool.false_eq_true, if_false]
        exact hb

/-- .. what is programmed -/
theorem AbsC.prog {s : St} {ls : List Ln} (h : AbsC s ls) (hw : WfSt s) {line : Int} {p : ByteArray} (hok : ProgOk s line p) (k a b : Int) :
    AbsC (progSt s line p k a b) (ls.set line.toNat (stepL p ByteArray.empty ByteArray.empty k a b)) := by
  unfold progSt
  rw [if_pos hok]
  obtain ⟨k1, k2, k3, k4, k5, k6⟩ := hok
  apply AbsC.ended
  obtain ⟨n, hn⟩ : ∃ n, line.toNat = n := ⟨_, rfl⟩
  rw [hn]
  have hnL : n < s.L := by omega
  have hst := stepL_pt p ByteArray.empty ByteArray.empty k a b
  have hps : 3 * n < (stepSt s 1).ps.length := by show 3 * n < s.ps.length; rw [hw.psl]; omega
  have hhs : 3 * n < (stepSt s 1).hs.length := by show 3 * n < s.hs.length; rw [hw.hsl]; omega
  have hpg := fun j => put_page (stepSt s 1) (3 * n) j (pageT p k a b) (hurtsB k) hps
  have hmk := fun j => put_mark (stepSt s 1) (3 * n) j (pageT p k a b) (hurtsB k) hhs
  have hln := fun j => lnAt_set ls n j (stepL p ByteArray.empty ByteArray.empty k a b) (by rw [h.len]; exact hnL)
  have hfl := fullT k6 k a b
  have hsz := takes_size hw k6
  have he0 : ∀ k a b, (pageT ByteArray.empty k a b).size ≤ 400 := fun k a b => by rw [pageT_size]; exact Nat.zero_le _
  refine ⟨by simp [putSt, stepSt, h.len], fun i t => ?_, fun i hi => ?_, fun hm => absurd rfl hm, fun j hj => ?_, fun hm => absurd (show (1 : Int) = 0 from hm) (by decide), fun hm => absurd (show (1 : Int) = 2 from hm) (by decide)⟩
  · rw [hln]
    split
    · match t with
      | 0 => show (stepL _ _ _ _ _ _).p.size ≤ 400; rw [hst.1, pageT_size]; exact hsz
      | 1 => show (stepL _ _ _ _ _ _).q.size ≤ 400; rw [hst.2.1]; exact he0 _ _ _
      | _ + 2 => show (stepL _ _ _ _ _ _).r.size ≤ 400; rw [hst.2.2.1]; exact he0 _ _ _
    · exact h.size i t
  · have hi2 : i < s.L := hi
    unfold lieT
    rw [hln, hpg, hmk]
    by_cases e : i = n
    · subst e
      simp only [if_true, hfl, if_false]
      exact ⟨hst.1, hst.2.2.2⟩
    · have e3 : ¬ 3 * i = 3 * n := by omega
      simp only [e, e3, if_false]
      exact h.one i hi2
  · rw [hpg]
    rw [hmk] at hj
    split
    · exact hfl
    · rename_i e
      rw [if_neg e] at hj
      exact h.full j hj

theorem put3_three (s : St) (i : Nat) (p q r : ByteArray) (k a b : Int) (j : Nat) (h1 : i + 2 < s.ps.length) (h2 : i + 2 < s.hs.length) :
    pageAt (put3 s i p q r k a b 3) j = (if j = i + 2 then pageT r k a b else if j = i + 1 then pageT q k a b else if j = i then pageT p k a b else pageAt s j)
    ∧ (put3 s i p q r k a b 3).hs.getD j false = (if j = i + 2 ∨ j = i + 1 ∨ j = i then hurtsB k else s.hs.getD j false) := by
  show pageAt (putSt (putSt (putSt s i (pageT p k a b) (hurtsB k)) (i + 1) (pageT q k a b) (hurtsB k)) (i + 2) (pageT r k a b) (hurtsB k)) j = _
    ∧ (putSt (putSt (putSt s i (pageT p k a b) (hurtsB k)) (i + 1) (pageT q k a b) (hurtsB k)) (i + 2) (pageT r k a b) (hurtsB k)).hs.getD j false = _
  rw [put_page _ _ _ _ _ (by simp [putSt]; omega), put_page _ _ _ _ _ (by simp [putSt]; omega), put_page _ _ _ _ _ (by omega),
    put_mark _ _ _ _ _ (by simp [putSt]; omega), put_mark _ _ _ _ _ (by simp [putSt]; omega), put_mark _ _ _ _ _ (by omega)]
  refine ⟨rfl, ?_⟩
  by_cases e2 : j = i + 2
  · rw [if_pos e2, if_pos (Or.inl e2)]
  · rw [if_neg e2]
    by_cases e1 : j = i + 1
    · rw [if_pos e1, if_pos (Or.inr (Or.inl e1))]
    · rw [if_neg e1]
      by_cases e0 : j = i
      · rw [if_pos e0, if_pos (Or.inr (Or.inr e0))]
      · rw [if_neg e0, if_neg (by omega)]

/-- .. in two passes -/
theorem AbsC.two {s : St} {ls : List Ln} (h : AbsC s ls) (hw : WfSt s) {line : Int} {p q r : ByteArray} {f : Bool} (hok : TwoOk s line p q r f) (k a b : Int) :
    AbsC (twoSt s line p q r f k a b) (ls.set line.toNat (stepL p q r k a b)) := by
  unfold twoSt
  rw [if_pos hok]
  obtain ⟨k1, k2, k3, k4, k5, k6, k7, k8, k9, k10⟩ := hok
  apply AbsC.ended
  obtain ⟨n, hn⟩ : ∃ n, line.toNat = n := ⟨_, rfl⟩
  rw [hn]
  have hst1 := place_step k4
  have hn1 : (stepC s.L s.done).1 = n := by omega
  have hnL : n < s.L := by omega
  have hst := stepL_pt p q r k a b
  have hps : 3 * n + 2 < (stepSt s 2).ps.length := by show 3 * n + 2 < s.ps.length; rw [hw.psl]; omega
  have hhs : 3 * n + 2 < (stepSt s 2).hs.length := by show 3 * n + 2 < s.hs.length; rw [hw.hsl]; omega
  have hpt := fun j => put3_three (stepSt s 2) (3 * n) p q r k a b j hps hhs
  obtain ⟨S, hS⟩ : ∃ S, put3 (stepSt s 2) (3 * n) p q r k a b 3 = S := ⟨_, rfl⟩
  have hSf : S.L = s.L ∧ S.Y = s.Y ∧ S.mode = 2 ∧ S.done = s.done + 1 := by rw [← hS]; exact ⟨rfl, rfl, rfl, rfl⟩
  rw [hS] at hpt ⊢
  have hln := fun j => lnAt_set ls n j (stepL p q r k a b) (by rw [h.len]; exact hnL)
  have f7 := fullT k7 k a b
  have f8 := fullT k8 k a b
  have f9 := fullT k9 k a b
  have s7 := takes_size hw k7
  have s8 := takes_size hw k8
  have s9 := takes_size hw k9
  have hps0 : ∀ j, pageAt (stepSt s 2) j = pageAt s j := fun _ => rfl
  have hhs0 : ∀ j, (stepSt s 2).hs.getD j false = s.hs.getD j false := fun _ => rfl
  have hall : ∀ i t, i < s.L → t < 3 → (lnAt (ls.set n (stepL p q r k a b)) i).pt t = lieT S (3 * i + t) ∧ (lnAt (ls.set n (stepL p q r k a b)) i).h = S.hs.getD (3 * i + t) false := by
    intro i t hi ht
    unfold lieT
    rw [hln, (hpt _).1, (hpt _).2, hSf.2.1]
    by_cases e : i = n
    · subst e
      rw [if_pos rfl]
      match t, ht with
      | 0, _ =>
        have b2 : ¬ 3 * i = 3 * i + 2 := by omega
        have b1 : ¬ 3 * i = 3 * i + 1 := by omega
        simp only [Nat.add_zero, b2, b1, if_false, if_true, false_or, f7]
        exact ⟨hst.1, hst.2.2.2⟩
      | 1, _ =>
        have b2 : ¬ 3 * i + 1 = 3 * i + 2 := by omega
        simp only [b2, if_false, if_true, false_or, true_or, f8]
        exact ⟨hst.2.1, hst.2.2.2⟩
      | 2, _ =>
        simp only [if_true, if_false, true_or, f9]
        exact ⟨hst.2.2.1, hst.2.2.2⟩
    · have a2 : ¬ 3 * i + t = 3 * n + 2 := by omega
      have a1 : ¬ 3 * i + t = 3 * n + 1 := by omega
      have a0 : ¬ 3 * i + t = 3 * n := by omega
      simp only [e, a2, a1, a0, or_self, if_false]
      exact h.all k3 i t hi ht
  refine ⟨by simp [hSf.1, h.len], fun i t => ?_, fun i hi => ?_, fun _ i t hi ht => hall i t (by rw [← hSf.1]; exact hi) ht, fun j hj => ?_, fun hm => absurd (hm.symm.trans hSf.2.2.1) (by decide), fun _ i t hi ht haf => ?_⟩
  · rw [hln]
    split
    · match t with
      | 0 => show (stepL _ _ _ _ _ _).p.size ≤ 400; rw [hst.1, pageT_size]; exact s7
      | 1 => show (stepL _ _ _ _ _ _).q.size ≤ 400; rw [hst.2.1, pageT_size]; exact s8
      | _ + 2 => show (stepL _ _ _ _ _ _).r.size ≤ 400; rw [hst.2.2.1, pageT_size]; exact s9
    · exact h.size i t
  · exact hall i 0 (by rw [← hSf.1]; exact hi) (by omega)
  · rw [(hpt j).2] at hj
    rw [(hpt j).1]
    by_cases e : j = 3 * n + 2 ∨ j = 3 * n + 1 ∨ j = 3 * n
    · split
      · exact f9
      · split
        · exact f8
        · split
          · exact f7
          · omega
    · rw [if_neg e, hhs0] at hj
      have a2 : ¬ j = 3 * n + 2 := by omega
      have a1 : ¬ j = 3 * n + 1 := by omega
      have a0 : ¬ j = 3 * n := by omega
      simp only [a2, a1, a0, if_false, hps0]
      exact h.full j hj
  · rw [hSf.1] at hi
    rw [hSf.1, hSf.2.2.2, after_succ k4 hi, hn1] at haf
    rw [(hpt _).1]
    by_cases e : i = n
    · subst e
      match t, ht with
      | 0, _ =>
        have b2 : ¬ 3 * i = 3 * i + 2 := by omega
        have b1 : ¬ 3 * i = 3 * i + 1 := by omega
        simp only [Nat.add_zero, b2, b1, if_false, if_true]; exact f7
      | 1, _ =>
        have b2 : ¬ 3 * i + 1 = 3 * i + 2 := by omega
        simp only [b2, if_false, if_true]; exact f8
      | 2, _ =>
        simp only [if_true]; exact f9
    · rw [if_neg (Ne.symm e)] at haf
      have a2 : ¬ 3 * i + t = 3 * n + 2 := by omega
      have a1 : ¬ 3 * i + t = 3 * n + 1 := by omega
      have a0 : ¬ 3 * i + t = 3 * n := by omega
      simp only [a2, a1, a0, if_false, hps0]
      rcases hw.mode with h0 | h0 | h0
      · rw [h.zero h0, after_none] at haf
        exact absurd haf (by decide)
      · exact absurd h0 k3
      · exact h.fog h0 i t hi ht haf

theorem blankS_full {n : Nat} (h : LenOk n) : ¬ blankS n = ByteArray.empty := by
  have h1 := blankS_size n
  obtain ⟨h2, _, _⟩ := h
  exact full_of_size (n := (n + 24) / 8 * 9 - 1) (by omega)
theorem hurtT_full {p : ByteArray} (a b : Int) (h : ¬ p = ByteArray.empty) : ¬ hurtT p a b = ByteArray.empty := by
  intro he
  have h1 := hurtT_size p a b
  rw [he] at h1
  exact h (ByteArray.size_eq_zero_iff.1 h1.symm)
theorem atT_full {s : St} (hw : WfSt s) (j : Nat) : ¬ atT s j = ByteArray.empty := by
  unfold atT
  split
  · exact blankS_full hw.y
  · rename_i h
    split
    · exact h
    · split
      · exact hurtT_full 0 0 h
      · exact h
theorem ruinT_full {s : St} (hw : WfSt s) (a b k : Int) (j : Nat) : ¬ ruinT s a b k j = ByteArray.empty := by
  unfold ruinT pageT
  split
  · exact atT_full hw j
  · split
    · exact hurtT_full a b (atT_full hw j)
    · exact atT_full hw j
theorem more_all (s : St) : (moreSt s).L = s.L ∧ (moreSt s).Y = s.Y ∧ (moreSt s).ps = s.ps ∧ (moreSt s).hs = s.hs ∧ (moreSt s).mode = s.mode ∧ (moreSt s).done = s.done := by
  unfold moreSt
  split <;> exact ⟨rfl, rfl, rfl, rfl, rfl, rfl⟩
theorem AbsC.more {s : St} {ls : List Ln} (h : AbsC s ls) : AbsC (moreSt s) ls := by
  have e := more_all s
  exact h.same e.1 e.2.1 e.2.2.2.2.1 e.2.2.2.2.2 e.2.2.1 e.2.2.2.1
theorem slc_all (s : St) : (slcSt s).L = s.L ∧ (slcSt s).Y = s.Y ∧ (slcSt s).ps = s.ps ∧ (slcSt s).hs = s.hs ∧ (slcSt s).mode = (if s.mode = 0 then 1 else s.mode) ∧ (slcSt s).done = s.done := by
  unfold slcSt
  split <;> exact ⟨rfl, rfl, rfl, rfl, rfl, rfl⟩
theorem ruin_all (s t : St) (a b k : Int) : ∀ n, (ruinTo s t a b k n).L = t.L ∧ (ruinTo s t a b k n).Y = t.Y ∧ (ruinTo s t a b k n).mode = t.mode ∧ (ruinTo s t a b k n).done = t.done
  | 0 => ⟨rfl, rfl, rfl, rfl⟩
  | n + 1 => ruin_all s t a b k n
theorem lnTold_size {s : St} {ls : List Ln} (h : AbsC s ls) (i t : Nat) : ((lnTold s ls i).pt t).size ≤ 400 := by
  unfold lnTold
  split
  · rw [hurtL_pt]
    split
    · exact h.size i t
    · rw [hurtT_size]; exact h.size i t
  · exact h.size i t
/-- .. and what is erased, cut or failing -/
theorem AbsC.ruin {s : St} {ls ls' : List Ln} (h : AbsC s ls) (hw : WfSt s) (hb : s.bad = false) (k a b : Int) (hk : hurtsB k = true) (hl : ls'.length = s.L) (hln : ∀ i, i < s.L → lnAt ls' i = hurtL (lnTold s ls i) a b) :
    AbsC (eraseSt s k a b) ls' := by
  unfold eraseSt
  rw [if_neg (by rw [hb]; simp), if_pos hk]
  apply AbsC.ended
  have hma := more_all s
  have hM : AbsC (moreSt s) ls := h.more
  have hat : ∀ j, atT (moreSt s) j = atT s j ∧ atH (moreSt s) j = atH s j := by
    intro j
    unfold atT atH isFog pageAt
    rw [hma.1, hma.2.1, hma.2.2.1, hma.2.2.2.1, hma.2.2.2.2.1, hma.2.2.2.2.2]
    exact ⟨rfl, rfl⟩
  have hwm : ∀ j, ¬ ruinT (moreSt s) a b k j = ByteArray.empty := by
    intro j
    unfold ruinT pageT
    rw [(hat j).1, (hat j).2, if_pos hk]
    split
    · exact atT_full hw j
    · exact hurtT_full a b (atT_full hw j)
  have hru : ∀ j, ruinT (moreSt s) a b k j = if atH s j = true then atT s j else hurtT (atT s j) a b := by
    intro j
    unfold ruinT pageT
    rw [(hat j).1, (hat j).2, if_pos hk]
  obtain ⟨R, hR⟩ : ∃ R, ruinTo (moreSt s) (moreSt s) a b k (3 * s.L) = R := ⟨_, rfl⟩
  have hRa := ruin_all (moreSt s) (moreSt s) a b k (3 * s.L)
  have hRp := fun j => ruin_page (moreSt s) (moreSt s) a b k j (3 * s.L) (by rw [hma.2.2.1, hw.psl]; exact Nat.le_refl _) (by rw [hma.2.2.2.1, hw.hsl]; exact Nat.le_refl _)
  have hRl := ruin_lens (moreSt s) (moreSt s) a b k (3 * s.L)
  rw [hR] at hRa hRp hRl ⊢
  have hSa := slc_all R
  have hRL : R.L = s.L := hRa.1.trans hma.1
  have hpp : ∀ j, j < 3 * s.L → pageAt (slcSt R) j = ruinT (moreSt s) a b k j ∧ (slcSt R).hs.getD j false = true := by
    intro j hj
    unfold pageAt
    rw [hSa.2.2.1, hSa.2.2.2.1]
    exact hRp j hj
  have hml : (slcSt R).mode = if s.mode = 0 then 1 else s.mode := by rw [hSa.2.2.2.2.1, hRa.2.2.1, hma.2.2.2.2.1]
  have hLL : (slcSt R).L = s.L := hSa.1.trans hRL
  have key : ∀ i t, i < s.L → t < 3 → (s.mode ≠ 1 ∨ t = 0) → (lnAt ls' i).pt t = lieT (slcSt R) (3 * i + t) ∧ (lnAt ls' i).h = (slcSt R).hs.getD (3 * i + t) false := by
    intro i t hi ht hm
    have hrd := h.read1 i t hi ht hm
    have hp := hpp (3 * i + t) (by omega)
    unfold lieT
    rw [hln i hi, hurtL_pt, hurtL_h, hp.1, hp.2, if_neg (hwm _), hru, hrd.1, hrd.2]
    exact ⟨rfl, rfl⟩
  refine ⟨hl.trans hLL.symm, fun i t => ?_, fun i hi => key i 0 (by rw [← hLL]; exact hi) (by omega) (Or.inr rfl), fun hm i t hi ht => key i t (by rw [← hLL]; exact hi) ht (Or.inl fun h1 => hm (by rw [hml, h1]; rfl)), fun j hj => ?_, fun h0 => ?_, fun _ i t hi ht _ => ?_⟩
  · by_cases hi : i < s.L
    · rw [hln i hi, hurtL_pt]
      split
      · exact lnTold_size h i t
      · rw [hurtT_size]; exact lnTold_size h i t
    · have he : lnAt ls' i = l0 := by
        unfold lnAt
        rw [List.getD_eq_getElem?_getD, List.getElem?_eq_none (by omega)]; rfl
      rw [he]
      match t with
      | 0 => exact Nat.zero_le _
      | 1 => exact Nat.zero_le _
      | _ + 2 => exact Nat.zero_le _
  · by_cases hj3 : j < 3 * s.L
    · rw [(hpp j hj3).1]; exact hwm j
    · exfalso
      rw [hSa.2.2.2.1, List.getD_eq_getElem?_getD, List.getElem?_eq_none (by rw [hRl.2, hma.2.2.2.1, hw.hsl]; omega)] at hj
      cases hj
  · exfalso
    rw [hml] at h0
    split at h0
    · cases h0
    · contradiction
  · rw [(hpp _ (by rw [hLL] at hi; omega)).1]; exact hwm _
/-- .. and where it goes well -/
theorem AbsC.clean {s : St} (hw : WfSt s) (hb : s.bad = false) (k a b : Int) (hk : hurtsB k = false) (h1 : s.slc < 1000000000) (h2 : s.tlc < 1000000000) :
    AbsC (eraseSt s k a b) (List.replicate s.L ⟨blankS s.Y, blankS s.Y, blankS s.Y, false⟩) := by
  have hwe := eraseSt_wf hw k a b h1 h2
  have he : eraseSt s k a b = { newSt s.L s.Y with slc := (moreSt s).slc, tlc := (moreSt s).tlc } := by
    unfold eraseSt
    rw [if_neg (by rw [hb]; simp), if_neg (by rw [hk]; simp)]
  rw [he] at hwe ⊢
  refine AbsC.fresh (s := { newSt s.L s.Y with slc := (moreSt s).slc, tlc := (moreSt s).tlc }) hwe rfl rfl (fun j => ?_) (fun j => ?_)
  · unfold pageAt newSt
    simp only [List.getD_eq_getElem?_getD, List.getElem?_replicate]
    split <;> rfl
  · unfold newSt
    simp only [List.getD_eq_getElem?_getD, List.getElem?_replicate]
    split <;> rfl
theorem AbsC.new {l y : Nat} (hw : WfSt (newSt l y)) : AbsC (newSt l y) (List.replicate l ⟨blankS y, blankS y, blankS y, false⟩) := by
  refine AbsC.fresh (s := newSt l y) hw rfl rfl (fun j => ?_) (fun j => ?_)
  · unfold pageAt newSt
    simp only [List.getD_eq_getElem?_getD, List.getElem?_replicate]
    split <;> rfl
  · unfold newSt
    simp only [List.getD_eq_getElem?_getD, List.getElem?_replicate]
    split <;> rfl

end Go.Proofs.YtjmoecfgpfdncaaDoor
