/- Texts of one claim, merged: FrL1, FrL0, FrL2, Str4, FrL3, FrB4, Args. -/
import Derived.Test.YtlacmfacigfioaaDoorM8
import Derived.Test.YtlacmfacigfioaaDoorM4
import Derived.Test.YtlacmfacigfioaaDoorM2
import Derived.Test.YtlacmfacigfioaaDoorM5
import Derived.Test.YtlacmfacigfioaaDoorRows
import Derived.WalkKit
import Derived.ProofKit
import Derived.OpenShut
import Derived.Lib.SmallJoins
import Derived.Test.YtlacmfacigfioaaDoorM1
import Derived.Carry
import Derived.ChangeSlices

/- The chapter's example: the walk of works. -/
namespace Go.Proofs.YtlacmfacigfioaaDoor
set_option maxRecDepth 100000
open Go.RowKit

theorem enc_page {k l q e : Int} {data : ByteArray} (hl : LenOk data.size) (hm : MayT k l q e) : frT k l q e data = pageS k l q e data ∧ frE k l q e data = 0 := by
  unfold frT frE
  rw [if_pos ⟨hl, hm⟩, if_pos hl, if_pos hm]
  exact ⟨rfl, rfl⟩
theorem blank8 : blankT 8 = ffS 36 := by
  unfold blankT
  rw [if_pos (by decide)]; rfl
theorem blank_page (c : Nat) (hc : 4 ≤ c) (hc2 : c ≤ 35) : pageV (ffS (9 * c)) = pv 1 0 0 0 0 ByteArray.empty := by
  refine blank_erased (ffS_size _) hc hc2 fun k hk => ?_
  rw [ff_piece _ _ _ (by omega), bs_ff, zs_ff]; omega
/-- a blank page hurt is bad -/
theorem blank_hurt (c : Nat) (a b : Int) (hc : 4 ≤ c) (hc2 : c ≤ 35) : pageV (hurtT (ffS (9 * c)) a b) = pv 4 0 0 0 0 ByteArray.empty ∧ (hurtT (ffS (9 * c)) a b).size = 9 * c := by
  have hz := ffS_size (9 * c)
  unfold hurtT
  rw [if_neg (by omega)]
  obtain ⟨p, hp⟩ : ∃ p, first72 a = p := ⟨_, rfl⟩
  have hp72 : p < 72 := by rw [← hp]; unfold first72; omega
  obtain ⟨m, hm⟩ : ∃ m, (b % 71).toNat = m := ⟨_, rfl⟩
  have hm71 : m < 71 := by omega
  have hq : second72 a b = (p + 1 + m) % 72 := by unfold second72; rw [hp, hm]
  rw [hp, hq]
  obtain ⟨q, hqe⟩ : ∃ q, (p + 1 + m) % 72 = q := ⟨_, rfl⟩
  rw [hqe]
  have hq72 : q < 72 := by omega
  have hne : p ≠ q := by omega
  have s1 : (flipS (ffS (9 * c)) (p / 8) (p % 8)).size = 9 * c := by rw [flipS_size _ _ _ (by omega), hz]
  have s2 : (flipS (flipS (ffS (9 * c)) (p / 8) (p % 8)) (q / 8) (q % 8)).size = 9 * c := by rw [flipS_size _ _ _ (by omega), s1]
  have e1 := piece_flip_same (ffS (9 * c)) 0 (p / 8) (p % 8) (by omega) (by omega)
  have e2 := piece_flip_same (flipS (ffS (9 * c)) (p / 8) (p % 8)) 0 (q / 8) (q % 8) (by omega) (by omega)
  rw [show 9 * 0 + p / 8 = p / 8 by omega, ff_piece _ _ _ (by omega)] at e1
  rw [show 9 * 0 + q / 8 = q / 8 by omega, e1] at e2
  have hb := ff_bad p q hp72 hq72 hne
  refine ⟨page_told s2 hc hc2 (k := 0) (by omega) (blank_first (by rw [e2]; exact hb.2) (by omega)) (by rw [e2]; exact hb.1), s2⟩

/-- the world while the last line of works runs -/
def CW5 (w0 : World) (g : Nat) (w : World) : Prop := Blk w g (ta 1 2 3 4) 23 ∧ Tabs w ∧ Kept w0 w
theorem CW5.call {w0 w w' : World} {g : Nat} (h : CW5 w0 g w) (hb : Below w.heap.size w w') : CW5 w0 g w' := ⟨h.1.after hb, h.2.1.after hb, h.2.2.call hb⟩
theorem CW5.drew {w0 w : World} {g : Nat} (h : CW5 w0 g w) : CW5 w0 g w.drew := h.call (Below.refl _ _).drew
theorem no_special5 {T : World → World → Prop} : ∀ (j : Nat) (a a' : Act) (w w' : World), (fun (_ : Nat) (_ : Act) (_ : World) => False) j a w → (∀ d ∈ ([] : List Tmp), a'.tmps.getD d undef = a.tmps.getD d undef) → T w w' → (fun (_ : Nat) (_ : Act) (_ : World) => False) j a' w' := fun _ _ _ _ _ h _ _ => h
abbrev P4' : Array Value := pv 4 0 0 0 0 ByteArray.empty
abbrev P1' : Array Value := pv 1 0 0 0 0 ByteArray.empty

/-- what each operation of the region FW leaves -/
def vsFW (ps bl hb d8 : ByteArray) : List (Option (Tmp × Value)) :=
  [some (12, .int .i64 0), some (13, .bool true), some (14, .bool true), some (15, .string ps), some (16, .int .i64 36), some (17, .bool true), some (18, .bool true), some (19, .bool true), some (20, .string ps), some (21, .agg (pv 2 1 2 3 4 d8)), some (22, .agg (ta 1 2 3 4)), some (23, .agg (pv 2 1 2 3 4 d8)), some (24, .bool true), some (25, .bool true), some (26, .bool true), some (27, .string bl), some (28, .int .i64 36), some (29, .bool true), some (30, .bool true), some (31, .bool true), some (32, .string bl), some (33, .agg P1'), some (34, .agg P1'), some (35, .bool true), some (36, .bool true), some (37, .bool true), some (38, .string bl), some (39, .string hb), some (40, .agg P4'), some (41, .agg P4'), some (42, .bool true), some (43, .bool true), some (0, .bool true)]
/-- the frame while the region FW runs -/
def BaseFW (g : Nat) (ps bl : ByteArray) (a : Act) : Prop := ∃ u : Nat → Value, a = ⟨#[u 0, .pointer (some ⟨g, 0, none⟩), .string ps, .int .i64 0, .string bl, u 5, u 6, u 7, u 8, u 9, u 10, u 11, u 12, u 13, u 14, u 15, u 16, u 17, u 18, u 19, u 20, u 21, u 22, u 23, u 24, u 25, u 26, u 27, u 28, u 29, u 30, u 31, u 32, u 33, u 34, u 35, u 36, u 37, u 38, u 39, u 40, u 41, u 42, u 43], []⟩
theorem BaseFW.of {g : Nat} {ps bl : ByteArray} (arr : Array Value) (h : arr = #[arr.getD 0 undef, .pointer (some ⟨g, 0, none⟩), .string ps, .int .i64 0, .string bl, arr.getD 5 undef, arr.getD 6 undef, arr.getD 7 undef, arr.getD 8 undef, arr.getD 9 undef, arr.getD 10 undef, arr.getD 11 undef, arr.getD 12 undef, arr.getD 13 undef, arr.getD 14 undef, arr.getD 15 undef, arr.getD 16 undef, arr.getD 17 undef, arr.getD 18 undef, arr.getD 19 undef, arr.getD 20 undef, arr.getD 21 undef, arr.getD 22 undef, arr.getD 23 undef, arr.getD 24 undef, arr.getD 25 undef, arr.getD 26 undef, arr.getD 27 undef, arr.getD 28 undef, arr.getD 29 undef, arr.getD 30 undef, arr.getD 31 undef, arr.getD 32 undef, arr.getD 33 undef, arr.getD 34 undef, arr.getD 35 undef, arr.getD 36 undef, arr.getD 37 undef, arr.getD 38 undef, arr.getD 39 undef, arr.getD 40 undef, arr.getD 41 undef, arr.getD 42 undef, arr.getD 43 undef]) : BaseFW g ps bl ⟨arr, []⟩ := ⟨fun i => arr.getD i undef, by rw [← h]⟩
theorem BaseFW.put12 {g : Nat} {ps bl : ByteArray} (a : Act) (v : Value) (h : BaseFW g ps bl a) : BaseFW g ps bl (a.put (some 12) v) := by
  obtain ⟨u, rfl⟩ := h
  exact ⟨fun i => if i = 12 then v else u i, by kernel_rfl⟩
theorem BaseFW.put13 {g : Nat} {ps bl : ByteArray} (a : Act) (v : Value) (h : BaseFW g ps bl a) : BaseFW g ps bl (a.put (some 13) v) := by
  obtain ⟨u, rfl⟩ := h
  exact ⟨fun i => if i = 13 then v else u i, by kernel_rfl⟩
theorem BaseFW.put14 {g : Nat} {ps bl : ByteArray} (a : Act) (v : Value) (h : BaseFW g ps bl a) : BaseFW g ps bl (a.put (some 14) v) := by
  obtain ⟨u, rfl⟩ := h
  exact ⟨fun i => if i = 14 then v else u i, by kernel_rfl⟩
theorem BaseFW.put15 {g : Nat} {ps bl : ByteArray} (a : Act) (v : Value) (h : BaseFW g ps bl a) : BaseFW g ps bl (a.put (some 15) v) := by
  obtain ⟨u, rfl⟩ := h
  exact ⟨fun i => if i = 15 then v else u i, by kernel_rfl⟩
theorem BaseFW.put16 {g : Nat} {ps bl : ByteArray} (a : Act) (v : Value) (h : BaseFW g ps bl a) : BaseFW g ps bl (a.put (some 16) v) := by
  obtain ⟨u, rfl⟩ := h
  exact ⟨fun i => if i = 16 then v else u i, by kernel_rfl⟩
theorem BaseFW.put17 {g : Nat} {ps bl : ByteArray} (a : Act) (v : Value) (h : BaseFW g ps bl a) : BaseFW g ps bl (a.put (some 17) v) := by
  obtain ⟨u, rfl⟩ := h
  exact ⟨fun i => if i = 17 then v else u i, by kernel_rfl⟩
theorem BaseFW.put18 {g : Nat} {ps bl : ByteArray} (a : Act) (v : Value) (h : BaseFW g ps bl a) : BaseFW g ps bl (a.put (some 18) v) := by
  obtain ⟨u, rfl⟩ := h
  exact ⟨fun i => if i = 18 then v else u i, by kernel_rfl⟩
theorem BaseFW.put19 {g : Nat} {ps bl : ByteArray} (a : Act) (v : Value) (h : BaseFW g ps bl a) : BaseFW g ps bl (a.put (some 19) v) := by
  obtain ⟨u, rfl⟩ := h
  exact ⟨fun i => if i = 19 then v else u i, by kernel_rfl⟩
theorem BaseFW.put20 {g : Nat} {ps bl : ByteArray} (a : Act) (v : Value) (h : BaseFW g ps bl a) : BaseFW g ps bl (a.put (some 20) v) := by
  obtain ⟨u, rfl⟩ := h
  exact ⟨fun i => if i = 20 then v else u i, by kernel_rfl⟩
theorem BaseFW.put21 {g : Nat} {ps bl : ByteArray} (a : Act) (v : Value) (h : BaseFW g ps bl a) : BaseFW g ps bl (a.put (some 21) v) := by
  obtain ⟨u, rfl⟩ := h
  exact ⟨fun i => if i = 21 then v else u i, by kernel_rfl⟩
theorem BaseFW.put22 {g : Nat} {ps bl : ByteArray} (a : Act) (v : Value) (h : BaseFW g ps bl a) : BaseFW g ps bl (a.put (some 22) v) := by
  obtain ⟨u, rfl⟩ := h
  exact ⟨fun i => if i = 22 then v else u i, by kernel_rfl⟩
theorem BaseFW.put23 {g : Nat} {ps bl : ByteArray} (a : Act) (v : Value) (h : BaseFW g ps bl a) : BaseFW g ps bl (a.put (some 23) v) := by
  obtain ⟨u, rfl⟩ := h
  exact ⟨fun i => if i = 23 then v else u i, by kernel_rfl⟩
theorem BaseFW.put24 {g : Nat} {ps bl : ByteArray} (a : Act) (v : Value) (h : BaseFW g ps bl a) : BaseFW g ps bl (a.put (some 24) v) := by
  obtain ⟨u, rfl⟩ := h
  exact ⟨fun i => if i = 24 then v else u i, by kernel_rfl⟩
theorem BaseFW.put25 {g : Nat} {ps bl : ByteArray} (a : Act) (v : Value) (h : BaseFW g ps bl a) : BaseFW g ps bl (a.put (some 25) v) := by
  obtain ⟨u, rfl⟩ := h
  exact ⟨fun i => if i = 25 then v else u i, by kernel_rfl⟩
theorem BaseFW.put26 {g : Nat} {ps bl : ByteArray} (a : Act) (v : Value) (h : BaseFW g ps bl a) : BaseFW g ps bl (a.put (some 26) v) := by
  obtain ⟨u, rfl⟩ := h
  exact ⟨fun i => if i = 26 then v else u i, by kernel_rfl⟩
theorem BaseFW.put27 {g : Nat} {ps bl : ByteArray} (a : Act) (v : Value) (h : BaseFW g ps bl a) : BaseFW g ps bl (a.put (some 27) v) := by
  obtain ⟨u, rfl⟩ := h
  exact ⟨fun i => if i = 27 then v else u i, by kernel_rfl⟩
theorem BaseFW.put28 {g : Nat} {ps bl : ByteArray} (a : Act) (v : Value) (h : BaseFW g ps bl a) : BaseFW g ps bl (a.put (some 28) v) := by
  obtain ⟨u, rfl⟩ := h
  exact ⟨fun i => if i = 28 then v else u i, by kernel_rfl⟩
theorem BaseFW.put29 {g : Nat} {ps bl : ByteArray} (a : Act) (v : Value) (h : BaseFW g ps bl a) : BaseFW g ps bl (a.put (some 29) v) := by
  obtain ⟨u, rfl⟩ := h
  exact ⟨fun i => if i = 29 then v else u i, by kernel_rfl⟩
theorem BaseFW.put30 {g : Nat} {ps bl : ByteArray} (a : Act) (v : Value) (h : BaseFW g ps bl a) : BaseFW g ps bl (a.put (some 30) v) := by
  obtain ⟨u, rfl⟩ := h
  exact ⟨fun i => if i = 30 then v else u i, by kernel_rfl⟩
theorem BaseFW.put31 {g : Nat} {ps bl : ByteArray} (a : Act) (v : Value) (h : BaseFW g ps bl a) : BaseFW g ps bl (a.put (some 31) v) := by
  obtain ⟨u, rfl⟩ := h
  exact ⟨fun i => if i = 31 then v else u i, by kernel_rfl⟩
theorem BaseFW.put32 {g : Nat} {ps bl : ByteArray} (a : Act) (v : Value) (h : BaseFW g ps bl a) : BaseFW g ps bl (a.put (some 32) v) := by
  obtain ⟨u, rfl⟩ := h
  exact ⟨fun i => if i = 32 then v else u i, by kernel_rfl⟩
theorem BaseFW.put33 {g : Nat} {ps bl : ByteArray} (a : Act) (v : Value) (h : BaseFW g ps bl a) : BaseFW g ps bl (a.put (some 33) v) := by
  obtain ⟨u, rfl⟩ := h
  exact ⟨fun i => if i = 33 then v else u i, by kernel_rfl⟩
theorem BaseFW.put34 {g : Nat} {ps bl : ByteArray} (a : Act) (v : Value) (h : BaseFW g ps bl a) : BaseFW g ps bl (a.put (some 34) v) := by
  obtain ⟨u, rfl⟩ := h
  exact ⟨fun i => if i = 34 then v else u i, by kernel_rfl⟩
theorem BaseFW.put35 {g : Nat} {ps bl : ByteArray} (a : Act) (v : Value) (h : BaseFW g ps bl a) : BaseFW g ps bl (a.put (some 35) v) := by
  obtain ⟨u, rfl⟩ := h
  exact ⟨fun i => if i = 35 then v else u i, by kernel_rfl⟩
theorem BaseFW.put36 {g : Nat} {ps bl : ByteArray} (a : Act) (v : Value) (h : BaseFW g ps bl a) : BaseFW g ps bl (a.put (some 36) v) := by
  obtain ⟨u, rfl⟩ := h
  exact ⟨fun i => if i = 36 then v else u i, by kernel_rfl⟩
theorem BaseFW.put37 {g : Nat} {ps bl : ByteArray} (a : Act) (v : Value) (h : BaseFW g ps bl a) : BaseFW g ps bl (a.put (some 37) v) := by
  obtain ⟨u, rfl⟩ := h
  exact ⟨fun i => if i = 37 then v else u i, by kernel_rfl⟩
theorem BaseFW.put38 {g : Nat} {ps bl : ByteArray} (a : Act) (v : Value) (h : BaseFW g ps bl a) : BaseFW g ps bl (a.put (some 38) v) := by
  obtain ⟨u, rfl⟩ := h
  exact ⟨fun i => if i = 38 then v else u i, by kernel_rfl⟩
theorem BaseFW.put39 {g : Nat} {ps bl : ByteArray} (a : Act) (v : Value) (h : BaseFW g ps bl a) : BaseFW g ps bl (a.put (some 39) v) := by
  obtain ⟨u, rfl⟩ := h
  exact ⟨fun i => if i = 39 then v else u i, by kernel_rfl⟩
theorem BaseFW.put40 {g : Nat} {ps bl : ByteArray} (a : Act) (v : Value) (h : BaseFW g ps bl a) : BaseFW g ps bl (a.put (some 40) v) := by
  obtain ⟨u, rfl⟩ := h
  exact ⟨fun i => if i = 40 then v else u i, by kernel_rfl⟩
theorem BaseFW.put41 {g : Nat} {ps bl : ByteArray} (a : Act) (v : Value) (h : BaseFW g ps bl a) : BaseFW g ps bl (a.put (some 41) v) := by
  obtain ⟨u, rfl⟩ := h
  exact ⟨fun i => if i = 41 then v else u i, by kernel_rfl⟩
theorem BaseFW.put42 {g : Nat} {ps bl : ByteArray} (a : Act) (v : Value) (h : BaseFW g ps bl a) : BaseFW g ps bl (a.put (some 42) v) := by
  obtain ⟨u, rfl⟩ := h
  exact ⟨fun i => if i = 42 then v else u i, by kernel_rfl⟩
theorem BaseFW.put43 {g : Nat} {ps bl : ByteArray} (a : Act) (v : Value) (h : BaseFW g ps bl a) : BaseFW g ps bl (a.put (some 43) v) := by
  obtain ⟨u, rfl⟩ := h
  exact ⟨fun i => if i = 43 then v else u i, by kernel_rfl⟩
theorem BaseFW.put0 {g : Nat} {ps bl : ByteArray} (a : Act) (v : Value) (h : BaseFW g ps bl a) : BaseFW g ps bl (a.put (some 0) v) := by
  obtain ⟨u, rfl⟩ := h
  exact ⟨fun i => if i = 0 then v else u i, by kernel_rfl⟩

set_option maxHeartbeats 2000000 in
set_option maxRecDepth 100000 in
theorem works_any (w : World) (hT : Tabs w) : Calls Tryd.prog 9 #[] w fun r w' => r = .returned (.bool true) ∧ Below w.heap.size w w' := by
  obtain ⟨d8, hd8⟩ : ∃ d : ByteArray, (⟨#[97, 98, 99, 100, 101, 102, 103, 104]⟩ : ByteArray) = d := ⟨_, rfl⟩
  have hdz : d8.size = 8 := by rw [← hd8]; rfl
  have hlen : LenOk d8.size := by rw [hdz]; decide
  have hmay : MayT 1 2 3 4 := by decide
  have hmx : d8.size ≤ maxLen := by rw [hdz]; decide
  obtain ⟨ps, hps⟩ : ∃ ps, pageS 1 2 3 4 d8 = ps := ⟨_, rfl⟩
  have hpz : ps.size = 36 := by rw [← hps, pageS_size, hdz]
  have HP1 : Hid (pageV ps = pv 2 1 2 3 4 d8) := by rw [← hps]; exact page_back d8 hlen hmay
  have HEN := Lib.hid (enc_page hlen hmay)
  rw [hps] at HEN
  obtain ⟨bl, hbl⟩ : ∃ b, ffS 36 = b := ⟨_, rfl⟩
  have hbz : bl.size = 36 := by rw [← hbl]; exact ffS_size _
  have HB8 : Hid (blankT 8 = bl) := by rw [← hbl]; exact blank8
  have HP2 : Hid (pageV bl = P1') := by rw [← hbl]; exact blank_page 4 (by decide) (by decide)
  obtain ⟨hb, hhb⟩ : ∃ h, hurtT bl 0 0 = h := ⟨_, rfl⟩
  have hbh := blank_hurt 4 0 0 (by decide) (by decide)
  rw [show 9 * 4 = 36 from rfl, hbl, hhb] at hbh
  have HP3 := Lib.hid hbh.1
  have HS1 : Hid (ps.size ≤ 400) := by show ps.size ≤ 400; omega
  have HS2 : Hid (bl.size ≤ 400) := by show bl.size ≤ 400; omega
  have HS3 : Hid (hb.size ≤ 400) := by show hb.size ≤ 400; omega
  have HS4 : Hid (bl.size ≤ 1000) := by show bl.size ≤ 1000; omega
  have HZ1 : Hid ((ps.size : Int) = 36) := by show (ps.size : Int) = 36; omega
  have HZ2 : Hid ((bl.size : Int) = 36) := by show (bl.size : Int) = 36; omega
  have HH := Lib.hid hhb
  have HD8 := Lib.hid hd8
  have HMX := Lib.hid hmx
  have HT := Lib.hid hT
  clear hd8 hdz hlen hmay hmx hps hpz hbl hbz hhb hbh hT
  go_enter Tryd.func9, Tryd.ntmps9
  go_wp2_with (first
    | (refine wpList_store_row rfl 23 (.tmp 1) (.tmp 5) rfl w.heap.size (ta 1 2 3 4) rfl rfl 23 (ta 0 0 0 0) (Blk.new w (ta 0 0 0 0) 23) size_tag rfl (ta_one _ _ _ _) ?_)
    | (refine wpList_load_row rfl 23 (.tmp 1) rfl w.heap.size rfl 23 (ta 1 2 3 4) (0, 0) _ ((Blk.new w (ta 0 0 0 0) 23).put (ta 1 2 3 4)) Tryd.underlying23 rfl size_tag ?_))
  have HK0 : Hid (CW5 w w.heap.size ((w.alloc (.cells (ta 0 0 0 0) 23)).setRow w.heap.size (ta 1 2 3 4))) :=
    ⟨(Blk.new w (ta 0 0 0 0) 23).put _, HT.out.after (below_put (Nat.le_refl _) _ ((Below.refl _ _).alloc (Nat.le_refl _) _)), below_put (Nat.le_refl _) _ ((Below.refl _ _).alloc (Nat.le_refl _) _)⟩
  rw [HD8.out]
  refine (fr_enc 1 2 3 4 d8 _ HMX.out HK0.out.2.1).mono ?_
  rintro r w1 ⟨rfl, hb1⟩
  rw [HEN.out.1, HEN.out.2]
  have HK1 := Lib.hid (HK0.out.call hb1)
  clear hb1 HK0
  go_wp2_with fail
  refine (fr_blank 8 _).mono ?_
  rintro r w2 ⟨rfl, hb2⟩
  rw [HB8.out]
  have HK2 := Lib.hid (HK1.out.call hb2)
  clear hb2 HK1
  go_wp2_with fail
  refine wp_region_list3 (SV (vsFW ps bl hb d8) []) (BaseFW w.heap.size ps bl) (CW5 w w.heap.size) Goes (RV (vsFW ps bl hb d8) (fun _ _ _ => False)) rfl (by kernel_rfl) (RV.ext no_special5) ?base HK2.out.drew (BaseFW.of _ (by kernel_rfl)) ?steps ?fin
  case base => exact ⟨BaseFW.put12, BaseFW.put13, BaseFW.put14, BaseFW.put15, BaseFW.put16, BaseFW.put17, BaseFW.put18, BaseFW.put19, BaseFW.put20, BaseFW.put21, BaseFW.put22, BaseFW.put23, BaseFW.put24, BaseFW.put25, BaseFW.put26, BaseFW.put27, BaseFW.put28, BaseFW.put29, BaseFW.put30, BaseFW.put31, BaseFW.put32, BaseFW.put33, BaseFW.put34, BaseFW.put35, BaseFW.put36, BaseFW.put37, BaseFW.put38, BaseFW.put39, BaseFW.put40, BaseFW.put41, BaseFW.put42, BaseFW.put43, BaseFW.put0, trivial⟩
  case steps =>
    refine ⟨?_, ?_, ?_, ?_, ?_, ?_, ?_, ?_, ?_, ?_, ?_, ?_, ?_, ?_, ?_, ?_, ?_, ?_, ?_, ?_, ?_, ?_, ?_, ?_, ?_, ?_, ?_, ?_, ?_, ?_, ?_, ?_, ?_, trivial⟩
    all_goals
      intro a w' hC hB hR
      obtain ⟨u, rfl⟩ := hB
      have HC := Lib.hid hC
      clear hC
    · clear hR
      refine if_yes (by kernel_rfl) ?_
      unfold Oper.wp
      go_simp
      exact ⟨.int .i64 0, rfl, HC.out, Below.refl _ _, rfl⟩
    · have h12 : u 12 = .int .i64 0 := hR ⟨0, .data⟩ (by simp) rfl
      clear hR
      simp only [h12]
      clear h12
      refine if_yes (by kernel_rfl) ?_
      unfold Oper.wp
      go_simp
      exact ⟨.bool true, rfl, HC.out, Below.refl _ _, rfl⟩
    · have h13 : u 13 = .bool true := hR ⟨1, .data⟩ (by simp) rfl
      clear hR
      simp only [h13]
      clear h13
      refine if_yes (by kernel_rfl) ?_
      unfold Oper.wp
      go_simp
      exact ⟨.bool true, rfl, HC.out, Below.refl _ _, rfl⟩
    · have g14 : u 14 = .bool true := hR ⟨2, .guard⟩ (by simp) rfl
      clear hR
      simp only [g14]
      clear g14
      refine if_yes (by kernel_rfl) ?_
      unfold Oper.wp
      go_simp
      exact ⟨.string ps, rfl, HC.out, Below.refl _ _, rfl⟩
    · have g14 : u 14 = .bool true := hR ⟨2, .guard⟩ (by simp) rfl
      have h15 : u 15 = .string ps := hR ⟨3, .data⟩ (by simp) rfl
      have hz1 := HZ1.out
      clear hR
      simp only [g14, h15]
      clear g14 h15
      refine if_yes (by kernel_rfl) ?_
      unfold Oper.wp
      go_simp
      exact ⟨.int .i64 36, rfl, HC.out, Below.refl _ _, rfl⟩
    · have g14 : u 14 = .bool true := hR ⟨2, .guard⟩ (by simp) rfl
      have h16 : u 16 = .int .i64 36 := hR ⟨4, .data⟩ (by simp) rfl
      clear hR
      simp only [g14, h16]
      clear g14 h16
      refine if_yes (by kernel_rfl) ?_
      unfold Oper.wp
      go_simp
      exact ⟨.bool true, rfl, HC.out, Below.refl _ _, rfl⟩
    · have h14 : u 14 = .bool true := hR ⟨2, .data⟩ (by simp) rfl
      have h17 : u 17 = .bool true := hR ⟨5, .data⟩ (by simp) rfl
      clear hR
      simp only [h14, h17]
      clear h14 h17
      refine if_yes (by kernel_rfl) ?_
      unfold Oper.wp
      go_simp
      exact ⟨.bool true, rfl, HC.out, Below.refl _ _, rfl⟩
    · have h18 : u 18 = .bool true := hR ⟨6, .data⟩ (by simp) rfl
      clear hR
      simp only [h18]
      clear h18
      refine if_yes (by kernel_rfl) ?_
      unfold Oper.wp
      go_simp
      exact ⟨.bool true, rfl, HC.out, Below.refl _ _, rfl⟩
    · have g19 : u 19 = .bool true := hR ⟨7, .guard⟩ (by simp) rfl
      clear hR
      simp only [g19]
      clear g19
      refine if_yes (by kernel_rfl) ?_
      unfold Oper.wp
      go_simp
      exact ⟨.string ps, rfl, HC.out, Below.refl _ _, rfl⟩
    · have g19 : u 19 = .bool true := hR ⟨7, .guard⟩ (by simp) rfl
      have h20 : u 20 = .string ps := hR ⟨8, .data⟩ (by simp) rfl
      clear hR
      simp only [g19, h20]
      clear g19 h20
      refine if_yes (by kernel_rfl) ?_
      unfold Oper.wp
      go_simp
      refine (fr_dec ps _ HS1.out HC.out.2.1).mono ?_
      rintro r w2 ⟨rfl, hb2⟩
      rw [HP1.out]
      exact ⟨.agg (pv 2 1 2 3 4 d8), rfl, HC.out.call hb2, hb2, rfl⟩
    · have g19 : u 19 = .bool true := hR ⟨7, .guard⟩ (by simp) rfl
      clear hR
      simp only [g19]
      clear g19
      refine if_yes (by kernel_rfl) ?_
      exact wp_load_row 23 (.tmp 1) rfl _ rfl 23 _ (0, 0) _ HC.out.1 Tryd.underlying23 rfl size_tag ⟨.agg (ta 1 2 3 4), rfl, HC.out, Below.refl _ _, rfl⟩
    · have g19 : u 19 = .bool true := hR ⟨7, .guard⟩ (by simp) rfl
      have h22 : u 22 = .agg (ta 1 2 3 4) := hR ⟨10, .data⟩ (by simp) rfl
      have hbu := fun w => build_page 2 1 2 3 4 d8 w
      have hd8 := HD8.out
      clear hR
      simp only [g19, h22]
      clear g19 h22
      refine if_yes (by kernel_rfl) ?_
      unfold Oper.wp
      go_simp
      exact ⟨.agg (pv 2 1 2 3 4 d8), rfl, HC.out, Below.refl _ _, rfl⟩
    · have g19 : u 19 = .bool true := hR ⟨7, .guard⟩ (by simp) rfl
      have h21 : u 21 = .agg (pv 2 1 2 3 4 d8) := hR ⟨9, .data⟩ (by simp) rfl
      have h23 : u 23 = .agg (pv 2 1 2 3 4 d8) := hR ⟨11, .data⟩ (by simp) rfl
      clear hR
      simp only [g19, h21, h23]
      clear g19 h21 h23
      refine if_yes (by kernel_rfl) ?_
      refine wp_eql_page (.tmp 21) (.tmp 23) rfl 2 1 2 3 4 2 1 2 3 4 _ _ rfl rfl ?_
      rw [sameP_self]
      exact ⟨.bool true, rfl, HC.out, Below.refl _ _, rfl⟩
    · have h19 : u 19 = .bool true := hR ⟨7, .data⟩ (by simp) rfl
      have h24 : u 24 = .bool true := hR ⟨12, .data⟩ (by simp) rfl
      clear hR
      simp only [h19, h24]
      clear h19 h24
      refine if_yes (by kernel_rfl) ?_
      unfold Oper.wp
      go_simp
      exact ⟨.bool true, rfl, HC.out, Below.refl _ _, rfl⟩
    · have h25 : u 25 = .bool true := hR ⟨13, .data⟩ (by simp) rfl
      clear hR
      simp only [h25]
      clear h25
      refine if_yes (by kernel_rfl) ?_
      unfold Oper.wp
      go_simp
      exact ⟨.bool true, rfl, HC.out, Below.refl _ _, rfl⟩
    · have g26 : u 26 = .bool true := hR ⟨14, .guard⟩ (by simp) rfl
      clear hR
      simp only [g26]
      clear g26
      refine if_yes (by kernel_rfl) ?_
      unfold Oper.wp
      go_simp
      exact ⟨.string bl, rfl, HC.out, Below.refl _ _, rfl⟩
    · have g26 : u 26 = .bool true := hR ⟨14, .guard⟩ (by simp) rfl
      have h27 : u 27 = .string bl := hR ⟨15, .data⟩ (by simp) rfl
      have hz2 := HZ2.out
      clear hR
      simp only [g26, h27]
      clear g26 h27
      refine if_yes (by kernel_rfl) ?_
      unfold Oper.wp
      go_simp
      exact ⟨.int .i64 36, rfl, HC.out, Below.refl _ _, rfl⟩
    · have g26 : u 26 = .bool true := hR ⟨14, .guard⟩ (by simp) rfl
      have h28 : u 28 = .int .i64 36 := hR ⟨16, .data⟩ (by simp) rfl
      clear hR
      simp only [g26, h28]
      clear g26 h28
      refine if_yes (by kernel_rfl) ?_
      unfold Oper.wp
      go_simp
      exact ⟨.bool true, rfl, HC.out, Below.refl _ _, rfl⟩
    · have h26 : u 26 = .bool true := hR ⟨14, .data⟩ (by simp) rfl
      have h29 : u 29 = .bool true := hR ⟨17, .data⟩ (by simp) rfl
      clear hR
      simp only [h26, h29]
      clear h26 h29
      refine if_yes (by kernel_rfl) ?_
      unfold Oper.wp
      go_simp
      exact ⟨.bool true, rfl, HC.out, Below.refl _ _, rfl⟩
    · have h30 : u 30 = .bool true := hR ⟨18, .data⟩ (by simp) rfl
      clear hR
      simp only [h30]
      clear h30
      refine if_yes (by kernel_rfl) ?_
      unfold Oper.wp
      go_simp
      exact ⟨.bool true, rfl, HC.out, Below.refl _ _, rfl⟩
    · have g31 : u 31 = .bool true := hR ⟨19, .guard⟩ (by simp) rfl
      clear hR
      simp only [g31]
      clear g31
      refine if_yes (by kernel_rfl) ?_
      unfold Oper.wp
      go_simp
      exact ⟨.string bl, rfl, HC.out, Below.refl _ _, rfl⟩
    · have g31 : u 31 = .bool true := hR ⟨19, .guard⟩ (by simp) rfl
      have h32 : u 32 = .string bl := hR ⟨20, .data⟩ (by simp) rfl
      clear hR
      simp only [g31, h32]
      clear g31 h32
      refine if_yes (by kernel_rfl) ?_
      unfold Oper.wp
      go_simp
      refine (fr_dec bl _ HS2.out HC.out.2.1).mono ?_
      rintro r w2 ⟨rfl, hb2⟩
      rw [HP2.out]
      exact ⟨.agg P1', rfl, HC.out.call hb2, hb2, rfl⟩
    · have g31 : u 31 = .bool true := hR ⟨19, .guard⟩ (by simp) rfl
      clear hR
      simp only [g31]
      clear g31
      refine if_yes (by kernel_rfl) ?_
      unfold Oper.wp
      go_simp
      exact ⟨.agg P1', rfl, HC.out, Below.refl _ _, rfl⟩
    · have g31 : u 31 = .bool true := hR ⟨19, .guard⟩ (by simp) rfl
      have h33 : u 33 = .agg P1' := hR ⟨21, .data⟩ (by simp) rfl
      have h34 : u 34 = .agg P1' := hR ⟨22, .data⟩ (by simp) rfl
      clear hR
      simp only [g31, h33, h34]
      clear g31 h33 h34
      refine if_yes (by kernel_rfl) ?_
      refine wp_eql_page (.tmp 33) (.tmp 34) rfl 1 0 0 0 0 1 0 0 0 0 _ _ rfl rfl ?_
      rw [sameP_self]
      exact ⟨.bool true, rfl, HC.out, Below.refl _ _, rfl⟩
    · have h31 : u 31 = .bool true := hR ⟨19, .data⟩ (by simp) rfl
      have h35 : u 35 = .bool true := hR ⟨23, .data⟩ (by simp) rfl
      clear hR
      simp only [h31, h35]
      clear h31 h35
      refine if_yes (by kernel_rfl) ?_
      unfold Oper.wp
      go_simp
      exact ⟨.bool true, rfl, HC.out, Below.refl _ _, rfl⟩
    · have h36 : u 36 = .bool true := hR ⟨24, .data⟩ (by simp) rfl
      clear hR
      simp only [h36]
      clear h36
      refine if_yes (by kernel_rfl) ?_
      unfold Oper.wp
      go_simp
      exact ⟨.bool true, rfl, HC.out, Below.refl _ _, rfl⟩
    · have g37 : u 37 = .bool true := hR ⟨25, .guard⟩ (by simp) rfl
      clear hR
      simp only [g37]
      clear g37
      refine if_yes (by kernel_rfl) ?_
      unfold Oper.wp
      go_simp
      exact ⟨.string bl, rfl, HC.out, Below.refl _ _, rfl⟩
    · have g37 : u 37 = .bool true := hR ⟨25, .guard⟩ (by simp) rfl
      have h38 : u 38 = .string bl := hR ⟨26, .data⟩ (by simp) rfl
      clear hR
      simp only [g37, h38]
      clear g37 h38
      refine if_yes (by kernel_rfl) ?_
      unfold Oper.wp
      go_simp
      refine (fr_hurt bl 0 0 _ HS4.out).mono ?_
      rintro r w2 ⟨rfl, hb2⟩
      rw [HH.out]
      exact ⟨.string hb, rfl, HC.out.call hb2, hb2, rfl⟩
    · have g37 : u 37 = .bool true := hR ⟨25, .guard⟩ (by simp) rfl
      have h39 : u 39 = .string hb := hR ⟨27, .data⟩ (by simp) rfl
      clear hR
      simp only [g37, h39]
      clear g37 h39
      refine if_yes (by kernel_rfl) ?_
      unfold Oper.wp
      go_simp
      refine (fr_dec hb _ HS3.out HC.out.2.1).mono ?_
      rintro r w2 ⟨rfl, hb2⟩
      rw [HP3.out]
      exact ⟨.agg P4', rfl, HC.out.call hb2, hb2, rfl⟩
    · have g37 : u 37 = .bool true := hR ⟨25, .guard⟩ (by simp) rfl
      clear hR
      simp only [g37]
      clear g37
      refine if_yes (by kernel_rfl) ?_
      unfold Oper.wp
      go_simp
      exact ⟨.agg P4', rfl, HC.out, Below.refl _ _, rfl⟩
    · have g37 : u 37 = .bool true := hR ⟨25, .guard⟩ (by simp) rfl
      have h40 : u 40 = .agg P4' := hR ⟨28, .data⟩ (by simp) rfl
      have h41 : u 41 = .agg P4' := hR ⟨29, .data⟩ (by simp) rfl
      clear hR
      simp only [g37, h40, h41]
      clear g37 h40 h41
      refine if_yes (by kernel_rfl) ?_
      refine wp_eql_page (.tmp 40) (.tmp 41) rfl 4 0 0 0 0 4 0 0 0 0 _ _ rfl rfl ?_
      rw [sameP_self]
      exact ⟨.bool true, rfl, HC.out, Below.refl _ _, rfl⟩
    · have h37 : u 37 = .bool true := hR ⟨25, .data⟩ (by simp) rfl
      have h42 : u 42 = .bool true := hR ⟨30, .data⟩ (by simp) rfl
      clear hR
      simp only [h37, h42]
      clear h37 h42
      refine if_yes (by kernel_rfl) ?_
      unfold Oper.wp
      go_simp
      exact ⟨.bool true, rfl, HC.out, Below.refl _ _, rfl⟩
    · have h43 : u 43 = .bool true := hR ⟨31, .data⟩ (by simp) rfl
      clear hR
      simp only [h43]
      clear h43
      refine if_yes (by kernel_rfl) ?_
      unfold Oper.wp
      go_simp
      exact ⟨.bool true, rfl, HC.out, Below.refl _ _, rfl⟩
  case fin =>
    intro a w' hC hB hR
    have h0 : a.tmps.getD 0 undef = .bool true := hR 32 (by decide)
    clear hR
    have HK := Lib.hid hC.2.2
    clear hC
    obtain ⟨u, rfl⟩ := hB
    have h0 : u 0 = .bool true := h0
    simp only [h0]
    clear h0
    go_wp2_with fail
    go_ret
    exact ⟨rfl, HK.out⟩

end Go.Proofs.YtlacmfacigfioaaDoor

/- Helpers of the laws of layer 5: below, turned. -/
namespace Go.Proofs.YtlacmfacigfioaaDoor
set_option maxRecDepth 100000
open Go.RowKit

theorem below_any (n by' : Int) (w : World) (h0 : 0 < by') (h1 : by' ≤ 1000) : Calls Tryd.prog 19 #[.int .i64 n, .int .i64 by'] w fun r w' => r = .returned (.int .i64 (n % by')) ∧ w = w' := by
  have hm := Int.tmod_eq_emod (a := n) (b := by')
  have hlt := Int.emod_lt_of_pos n h0
  have hge := Int.emod_nonneg n (b := by') (by omega)
  have hab : (by'.natAbs : Int) = by' := by omega
  obtain ⟨x, hx⟩ : ∃ x, n.tmod by' = x := ⟨_, rfl⟩
  obtain ⟨y, hy⟩ : ∃ y, n % by' = y := ⟨_, rfl⟩
  rw [hx, hy] at hm
  rw [hy] at hlt hge ⊢
  have hb' : by' ≠ 0 := by omega
  have hxy : (x < 0 → x + by' = y) ∧ (¬ x < 0 → x = y) := by
    by_cases hc : 0 ≤ n ∨ by' ∣ n
    · rw [if_pos hc] at hm; omega
    · rw [if_neg hc, hab] at hm; omega
  by_cases hneg : x < 0
  · have hxy2 := hxy.1 hneg
    have hlo : -1000 ≤ x := by omega
    clear hm hy hxy
    go_enter Tryd.func19, Tryd.ntmps19
    go_wp2
    go_ret
    exact ⟨rfl, rfl⟩
  · have hxy2 := hxy.2 hneg
    clear hm hy hxy
    subst hxy2
    go_enter Tryd.func19, Tryd.ntmps19
    go_wp2
    go_ret
    exact ⟨rfl, rfl⟩

set_option maxHeartbeats 1000000 in
set_option maxRecDepth 100000 in
theorem turned_any (s : ByteArray) (ch bit : Int) (k r : Nat) (w : World) (h9 : 9 ≤ s.size) (hs : s.size ≤ 400) (hk : ch % (s.size / 9 : Nat) = (k : Int)) (hr : bit % 72 = (r : Int)) :
    Calls Tryd.prog 18 #[.string s, .int .i64 ch, .int .i64 bit] w fun e w' => e = .returned (.string (flipS s (9 * k + r / 8) (r % 8))) ∧ Below w.heap.size w w' := by
  obtain ⟨c, hc⟩ : ∃ c, s.size / 9 = c := ⟨_, rfl⟩
  rw [hc] at hk
  have hc0 : 0 < c := by omega
  have hc44 : c ≤ 44 := by omega
  have hkc : (k : Int) < c := by rw [← hk]; exact Int.emod_lt_of_pos _ (by omega)
  have hr72 : r < 72 := by omega
  have hci : (s.size : Int) / 9 = (c : Int) := by omega
  obtain ⟨a, ha⟩ : ∃ a, 9 * k + r / 8 = a := ⟨_, rfl⟩
  obtain ⟨j, hj⟩ : ∃ j, r % 8 = j := ⟨_, rfl⟩
  rw [ha, hj]
  have has : a < s.size := by omega
  have hj8 : j < 8 := by omega
  have hq : (72 * (k : Int) + (r : Int)) / 8 = (a : Int) := by omega
  have hm : (72 * (k : Int) + (r : Int)) % 8 = (j : Int) := by omega
  have hks : k ≤ 43 := by omega
  obtain ⟨cap, W1, hcv, hb1, hcs, hfz, _⟩ := bytes_of (P := Tryd.prog) (src := 9) (dst := 45) (e := 5) Tryd.underlying9 Tryd.underlying45 Tryd.underlying5 s w
  obtain ⟨x, hcc⟩ : ∃ x, (nums s).getD a 0 = x := ⟨_, rfl⟩
  have hcell := hcs a (by rw [nums_length]; exact has)
  rw [hcc] at hcell
  have hf := hfz a has
  have hcb := fun y : Int => (hcs.set a y).conv (P := Tryd.prog) (src := 45) (e := 5) (dst := 9) Tryd.underlying45 Tryd.underlying5 Tryd.underlying9 s.size cap (len_set _ _ _ _ (nums_length s))
  have HC := Lib.hid hcc
  have HB := Lib.hid hb1
  have HK := Lib.hid hk
  have HR := Lib.hid hr
  have hasi : (a : Int) < (s.size : Int) := by omega
  clear hcs hfz hcc hb1 hk hr hc ha hj hkc
  go_enter Tryd.func18, Tryd.ntmps18
  go_wp2_with fail
  refine (below_any ch (c : Int) _ (by omega) (by omega)).mono ?_
  rintro e w' ⟨rfl, rfl⟩
  rw [HK.out]
  go_wp2_with fail
  refine (below_any bit 72 _ (by decide) (by decide)).mono ?_
  rintro e w' ⟨rfl, rfl⟩
  rw [HR.out]
  go_wp2_with fail
  go_ret
  exact ⟨by unfold flipS; rw [HC.out]; rfl, HB.out.setCell (Nat.le_refl _) _⟩

end Go.Proofs.YtlacmfacigfioaaDoor

/- The walks of the laws FrameEncodes, FrameDecodes, FrameHurts. -/
namespace Go.Proofs.YtlacmfacigfioaaDoor
set_option maxRecDepth 100000
open Go.RowKit

theorem works_then {w w1 : World} (hT : Tabs w) (hb : Below w.heap.size w w1) : Calls Tryd.prog 9 #[] w1 fun r w' => r = .returned (.bool true) ∧ Below w.heap.size w w' :=
  (works_any w1 (hT.after hb)).mono fun _ _ h => ⟨h.1, hb.trans (h.2.mono hb.size)⟩

set_option maxRecDepth 100000 in
theorem walk_FrameEncodes (k l q e : Int) (data : ByteArray) (hs : data.size ≤ maxLen) (w : World) (hT : Tabs w) :
    Calls Tryd.prog 3 #[.agg (ta k l q e), .string data] w fun r w' => r = .returned (.bool true) ∧ Below w.heap.size w w' := by
  have hm2 : (data.size : Int) ≤ 9223372036854775807 := by unfold maxLen at hs; omega
  have HT := Lib.hid hT
  have HS := Lib.hid hs
  clear hT hs
  by_cases h : data.size ≤ 1000
  · go_enter Tryd.func3, Tryd.ntmps3
    go_wp2_with (refine wpList_load_row rfl 23 (.tmp 2) rfl w.heap.size rfl 23 (ta k l q e) (0, 0) _ (Blk.new w (ta k l q e) 23) Tryd.underlying23 rfl size_tag ?_)
    refine (fr_enc k l q e data _ HS.out (HT.out.after ((Below.refl _ _).alloc (Nat.le_refl _) _))).mono ?_
    rintro r w1 ⟨rfl, hb1⟩
    have HK1 := Lib.hid ((Blk.new w (ta k l q e) 23).after hb1)
    have HB1 := Lib.hid (((Below.refl _ _).alloc (Nat.le_refl _) _).trans (hb1.mono (by simp)))
    clear hb1
    go_wp2_with (refine wpList_load_row rfl 23 (.tmp 2) rfl w.heap.size rfl 23 (ta k l q e) (0, 0) _ HK1.out Tryd.underlying23 rfl size_tag ?_)
    refine (rfr_enc k l q e data _ HS.out).mono ?_
    rintro r w2 ⟨rfl, hb2⟩
    have HB2 := Lib.hid (HB1.out.trans (hb2.mono HB1.out.size))
    clear hb2 HB1 HK1
    go_wp2_with fail
    refine (works_then HT.out HB2.out).mono ?_
    rintro r w3 ⟨rfl, hb3⟩
    have HB3 := Lib.hid hb3
    clear hb3 HB2
    go_wp2_with fail
    go_ret
    exact ⟨rfl, HB3.out⟩
  · have hn : ¬ (data.size : Int) ≤ 1000 := by omega
    go_enter Tryd.func3, Tryd.ntmps3
    go_wp2_with fail
    refine (works_then HT.out ((Below.refl _ _).alloc (Nat.le_refl _) _)).mono ?_
    rintro r w3 ⟨rfl, hb3⟩
    have HB3 := Lib.hid hb3
    clear hb3
    go_wp2_with fail
    go_ret
    exact ⟨rfl, HB3.out⟩

theorem pageV_pv (s : ByteArray) : ∃ f k l q e d, pageV s = pv f k l q e d := by
  unfold pageV pageOf
  repeat' split
  all_goals exact ⟨_, _, _, _, _, _, rfl⟩
set_option maxRecDepth 100000 in
theorem walk_FrameDecodes (s : ByteArray) (hs : s.size ≤ maxLen) (w : World) (hT : Tabs w) :
    Calls Tryd.prog 4 #[.string s] w fun r w' => r = .returned (.bool true) ∧ Below w.heap.size w w' := by
  have hm2 : (s.size : Int) ≤ 9223372036854775807 := by unfold maxLen at hs; omega
  have HT := Lib.hid hT
  clear hT hs
  by_cases h : s.size ≤ 400
  · have HS := Lib.hid h
    obtain ⟨f, k, l, q, e, d, hp⟩ := pageV_pv s
    have HP := Lib.hid hp
    have hsame := sameP_self f k l q e d
    clear hp
    go_enter Tryd.func4, Tryd.ntmps4
    go_wp2_with fail
    refine (fr_dec s _ HS.out HT.out).mono ?_
    rintro r w1 ⟨rfl, hb1⟩
    rw [HP.out]
    have HB1 := Lib.hid hb1
    clear hb1
    go_wp2_with fail
    refine (rfr_dec s _ HS.out).mono ?_
    rintro r w2 ⟨rfl, hb2⟩
    rw [HP.out]
    have HB2 := Lib.hid (HB1.out.trans (hb2.mono HB1.out.size))
    clear hb2 HB1
    go_wp2_with (refine wpList_eql_page rfl (.tmp 8) (.tmp 10) rfl f k l q e f k l q e d d rfl rfl ?_)
    refine (works_then HT.out HB2.out).mono ?_
    rintro r w3 ⟨rfl, hb3⟩
    have HB3 := Lib.hid hb3
    clear hb3 HB2
    go_wp2_with fail
    go_ret
    exact ⟨rfl, HB3.out⟩
  · have hn : ¬ (s.size : Int) ≤ 400 := by omega
    go_enter Tryd.func4, Tryd.ntmps4
    go_wp2_with fail
    refine (works_any _ HT.out).mono ?_
    rintro r w3 ⟨rfl, hb3⟩
    have HB3 := Lib.hid hb3
    clear hb3
    go_wp2_with fail
    go_ret
    exact ⟨rfl, HB3.out⟩

set_option maxRecDepth 100000 in
theorem walk_FrameHurts (s : ByteArray) (a b : Int) (hs : s.size ≤ maxLen) (w : World) (hT : Tabs w) :
    Calls Tryd.prog 5 #[.string s, .int .i64 a, .int .i64 b] w fun r w' => r = .returned (.bool true) ∧ Below w.heap.size w w' := by
  have hm2 : (s.size : Int) ≤ 9223372036854775807 := by unfold maxLen at hs; omega
  have HT := Lib.hid hT
  clear hT hs
  by_cases h : s.size ≤ 400
  · have HS : Hid (s.size ≤ 1000) := Nat.le_trans h (by decide)
    go_enter Tryd.func5, Tryd.ntmps5
    go_wp2_with fail
    refine (fr_blank a _).mono ?_
    rintro r w1 ⟨rfl, hb1⟩
    have HB1 := Lib.hid hb1
    clear hb1
    go_wp2_with fail
    refine (rfr_blank a _).mono ?_
    rintro r w2 ⟨rfl, hb2⟩
    have HB2 := Lib.hid (HB1.out.trans (hb2.mono HB1.out.size))
    clear hb2 HB1
    go_wp2_with fail
    refine (fr_hurt s a b _ HS.out).mono ?_
    rintro r w4 ⟨rfl, hb4⟩
    have HB4 := Lib.hid (HB2.out.trans (hb4.mono HB2.out.size))
    clear hb4 HB2
    go_wp2_with fail
    refine (rfr_hurt s a b _ HS.out).mono ?_
    rintro r w5 ⟨rfl, hb5⟩
    have HB5 := Lib.hid (HB4.out.trans (hb5.mono HB4.out.size))
    clear hb5 HB4
    go_wp2_with fail
    refine (works_then HT.out HB5.out).mono ?_
    rintro r w3 ⟨rfl, hb3⟩
    have HB3 := Lib.hid hb3
    clear hb3 HB5
    go_wp2_with fail
    go_ret
    exact ⟨rfl, HB3.out⟩
  · have hn : ¬ (s.size : Int) ≤ 400 := by omega
    go_enter Tryd.func5, Tryd.ntmps5
    go_wp2_with fail
    refine (works_any _ HT.out).mono ?_
    rintro r w3 ⟨rfl, hb3⟩
    have HB3 := Lib.hid hb3
    clear hb3
    go_wp2_with fail
    go_ret
    exact ⟨rfl, HB3.out⟩

end Go.Proofs.YtlacmfacigfioaaDoor

/- A struct of four numbers, by value, as a parameter: opened and shut. -/
namespace Go.Proofs.YtlacmfacigfioaaDoor
open Go.RowKit Go.ChangeShapes Go.WideShapes Go.ChangeAt

section
variable {H : Type} {enc : TypeId × Value → H} {P : Program} {w : World} {base : Nat} {spare : Nat → Bool} {held : Bool}
theorem open_ints4 {r : Reach} {b0 : Nat} {t : TypeId} {f0 f1 f2 f3 : Field} {v : Value} {d : DataW H} {ps : List MemPlace} (hs : P.underlying t = some (.struct #[f0, f1, f2, f3])) (hone : Deep.oneCellFields P #[f0, f1, f2, f3] = true) (hC : P.cellsOf t = 4)
    (e0 : P.underlying f0.type = some (.int .i64)) (e1 : P.underlying f1.type = some (.int .i64)) (e2 : P.underlying f2.type = some (.int .i64)) (e3 : P.underlying f3.type = some (.int .i64))
    (hv : Value.okWide P w r b0 t v) (h : DataW.Trod enc P w base spare held t v d ps) :
    ∃ a b c x : Int, v = .agg #[.int .i64 a, .int .i64 b, .int .i64 c, .int .i64 x] ∧ d = .agg [.lit (.int .i64 a), .lit (.int .i64 b), .lit (.int .i64 c), .lit (.int .i64 x)] ∧ ps = [] ∧
      (Lit.int .i64 a).wf = true ∧ (Lit.int .i64 b).wf = true ∧ (Lit.int .i64 c).wf = true ∧ (Lit.int .i64 x).wf = true := by
  obtain ⟨v0, v1, v2, v3, y0, y1, y2, y3, n, rfl, rfl, rfl, k0, k1, k2, k3⟩ := Joins.open_agg4 hs hone hC hv h
  obtain ⟨a, a0, a1, wa⟩ := DataW.trod_int e0 k0
  obtain ⟨b, b0, b1, wb⟩ := DataW.trod_int e1 k1
  obtain ⟨c, c0, c1, wc⟩ := DataW.trod_int e2 k2
  obtain ⟨x, x0, x1, wx⟩ := DataW.trod_int e3 k3
  simp at a0 b0 c0 x0
  subst a0 b0 c0 x0 a1 b1 c1 x1
  exact ⟨a, b, c, x, rfl, rfl, rfl, wa, wb, wc, wx⟩
theorem shut_ints4 {t : TypeId} {f0 f1 f2 f3 : Field} {a b c x : Int} (hs : P.underlying t = some (.struct #[f0, f1, f2, f3])) (hone : Deep.oneCellFields P #[f0, f1, f2, f3] = true) (hC : P.cellsOf t = 4)
    (e0 : P.underlying f0.type = some (.int .i64)) (e1 : P.underlying f1.type = some (.int .i64)) (e2 : P.underlying f2.type = some (.int .i64)) (e3 : P.underlying f3.type = some (.int .i64))
    (wa : (Lit.int .i64 a).wf = true) (wb : (Lit.int .i64 b).wf = true) (wc : (Lit.int .i64 c).wf = true) (wx : (Lit.int .i64 x).wf = true) :
    DataW.Trod enc P w base spare held t (.agg #[.int .i64 a, .int .i64 b, .int .i64 c, .int .i64 x]) (.agg [.lit (.int .i64 a), .lit (.int .i64 b), .lit (.int .i64 c), .lit (.int .i64 x)]) [] :=
  Joins.shut_agg4 hs hone hC (Joins.field_of_Trod (shut_int e0 wa) rfl) (Joins.field_of_Trod (shut_int e1 wb) rfl) (Joins.field_of_Trod (shut_int e2 wc) rfl) (Joins.field_of_Trod (shut_int e3 wx) rfl)
end

end Go.Proofs.YtlacmfacigfioaaDoor

/- The walk of the law FrameBack. -/
namespace Go.Proofs.YtlacmfacigfioaaDoor
set_option maxRecDepth 100000
open Go.RowKit

/-- the world while the last line of FrameBack runs -/
def CB (w0 : World) (g : Nat) (k l q e : Int) (w : World) : Prop := Blk w g (ta k l q e) 23 ∧ Tabs w ∧ Kept w0 w
theorem CB.call {w0 w w' : World} {g : Nat} {k l q e : Int} (h : CB w0 g k l q e w) (hb : Below w.heap.size w w') : CB w0 g k l q e w' := ⟨h.1.after hb, h.2.1.after hb, h.2.2.call hb⟩
theorem CB.drew {w0 w : World} {g : Nat} {k l q e : Int} (h : CB w0 g k l q e w) : CB w0 g k l q e w.drew := h.call (Below.refl _ _).drew
theorem enc_none {k l q e : Int} {data : ByteArray} (h : ¬ (LenOk data.size ∧ MayT k l q e)) : frT k l q e data = ByteArray.empty ∧ (frE k l q e data = 1 ∨ frE k l q e data = 2) := by
  unfold frT frE
  rw [if_neg h]
  refine ⟨rfl, ?_⟩
  by_cases h1 : LenOk data.size
  · rw [if_pos h1, if_neg (fun h2 => h ⟨h1, h2⟩)]; exact Or.inl rfl
  · rw [if_neg h1]; exact Or.inr rfl
theorem blank_len {n : Nat} (h : LenOk n) : blankT (n : Int) = ffS ((n + 24) / 8 * 9) := by
  unfold blankT
  rw [if_pos ⟨by omega, by simpa using h⟩, Int.toNat_natCast]; rfl

/-- what each operation of the region FB leaves -/
def vsFB (k l q e : Int) (ps data bl : ByteArray) : List (Option (Tmp × Value)) :=
  [some (19, .string ps), some (20, .agg (pv 2 k l q e data)), some (21, .agg (ta k l q e)), some (22, .string data), some (23, .agg (pv 2 k l q e data)), some (24, .bool true), some (25, .bool true), some (26, .string ps), some (27, .int .i64 (ps.size : Nat)), some (28, .string data), some (29, .int .i64 (data.size : Nat)), some (30, .string bl), some (31, .int .i64 (bl.size : Nat)), some (32, .bool true), some (33, .bool true), some (4, .bool true)]
/-- the frame while the region FB runs -/
def BaseFB (b2 : Nat) (ps data : ByteArray) (a : Act) : Prop := ∃ u : Nat → Value, a = ⟨#[u 0, .string data, .pointer (some ⟨b2, 0, none⟩), u 3, u 4, .string ps, u 6, u 7, u 8, u 9, u 10, u 11, u 12, u 13, u 14, u 15, u 16, u 17, u 18, u 19, u 20, u 21, u 22, u 23, u 24, u 25, u 26, u 27, u 28, u 29, u 30, u 31, u 32, u 33], []⟩
theorem BaseFB.of {b2 : Nat} {ps data : ByteArray} (arr : Array Value) (h : arr = #[arr.getD 0 undef, .string data, .pointer (some ⟨b2, 0, none⟩), arr.getD 3 undef, arr.getD 4 undef, .string ps, arr.getD 6 undef, arr.getD 7 undef, arr.getD 8 undef, arr.getD 9 undef, arr.getD 10 undef, arr.getD 11 undef, arr.getD 12 undef, arr.getD 13 undef, arr.getD 14 undef, arr.getD 15 undef, arr.getD 16 undef, arr.getD 17 undef, arr.getD 18 undef, arr.getD 19 undef, arr.getD 20 undef, arr.getD 21 undef, arr.getD 22 undef, arr.getD 23 undef, arr.getD 24 undef, arr.getD 25 undef, arr.getD 26 undef, arr.getD 27 undef, arr.getD 28 undef, arr.getD 29 undef, arr.getD 30 undef, arr.getD 31 undef, arr.getD 32 undef, arr.getD 33 undef]) : BaseFB b2 ps data ⟨arr, []⟩ := ⟨fun i => arr.getD i undef, by rw [← h]⟩
theorem BaseFB.put19 {b2 : Nat} {ps data : ByteArray} (a : Act) (v : Value) (h : BaseFB b2 ps data a) : BaseFB b2 ps data (a.put (some 19) v) := by
  obtain ⟨u, rfl⟩ := h
  exact ⟨fun i => if i = 19 then v else u i, by kernel_rfl⟩
theorem BaseFB.put20 {b2 : Nat} {ps data : ByteArray} (a : Act) (v : Value) (h : BaseFB b2 ps data a) : BaseFB b2 ps data (a.put (some 20) v) := by
  obtain ⟨u, rfl⟩ := h
  exact ⟨fun i => if i = 20 then v else u i, by kernel_rfl⟩
theorem BaseFB.put21 {b2 : Nat} {ps data : ByteArray} (a : Act) (v : Value) (h : BaseFB b2 ps data a) : BaseFB b2 ps data (a.put (some 21) v) := by
  obtain ⟨u, rfl⟩ := h
  exact ⟨fun i => if i = 21 then v else u i, by kernel_rfl⟩
theorem BaseFB.put22 {b2 : Nat} {ps data : ByteArray} (a : Act) (v : Value) (h : BaseFB b2 ps data a) : BaseFB b2 ps data (a.put (some 22) v) := by
  obtain ⟨u, rfl⟩ := h
  exact ⟨fun i => if i = 22 then v else u i, by kernel_rfl⟩
theorem BaseFB.put23 {b2 : Nat} {ps data : ByteArray} (a : Act) (v : Value) (h : BaseFB b2 ps data a) : BaseFB b2 ps data (a.put (some 23) v) := by
  obtain ⟨u, rfl⟩ := h
  exact ⟨fun i => if i = 23 then v else u i, by kernel_rfl⟩
theorem BaseFB.put24 {b2 : Nat} {ps data : ByteArray} (a : Act) (v : Value) (h : BaseFB b2 ps data a) : BaseFB b2 ps data (a.put (some 24) v) := by
  obtain ⟨u, rfl⟩ := h
  exact ⟨fun i => if i = 24 then v else u i, by kernel_rfl⟩
theorem BaseFB.put25 {b2 : Nat} {ps data : ByteArray} (a : Act) (v : Value) (h : BaseFB b2 ps data a) : BaseFB b2 ps data (a.put (some 25) v) := by
  obtain ⟨u, rfl⟩ := h
  exact ⟨fun i => if i = 25 then v else u i, by kernel_rfl⟩
theorem BaseFB.put26 {b2 : Nat} {ps data : ByteArray} (a : Act) (v : Value) (h : BaseFB b2 ps data a) : BaseFB b2 ps data (a.put (some 26) v) := by
  obtain ⟨u, rfl⟩ := h
  exact ⟨fun i => if i = 26 then v else u i, by kernel_rfl⟩
theorem BaseFB.put27 {b2 : Nat} {ps data : ByteArray} (a : Act) (v : Value) (h : BaseFB b2 ps data a) : BaseFB b2 ps data (a.put (some 27) v) := by
  obtain ⟨u, rfl⟩ := h
  exact ⟨fun i => if i = 27 then v else u i, by kernel_rfl⟩
theorem BaseFB.put28 {b2 : Nat} {ps data : ByteArray} (a : Act) (v : Value) (h : BaseFB b2 ps data a) : BaseFB b2 ps data (a.put (some 28) v) := by
  obtain ⟨u, rfl⟩ := h
  exact ⟨fun i => if i = 28 then v else u i, by kernel_rfl⟩
theorem BaseFB.put29 {b2 : Nat} {ps data : ByteArray} (a : Act) (v : Value) (h : BaseFB b2 ps data a) : BaseFB b2 ps data (a.put (some 29) v) := by
  obtain ⟨u, rfl⟩ := h
  exact ⟨fun i => if i = 29 then v else u i, by kernel_rfl⟩
theorem BaseFB.put30 {b2 : Nat} {ps data : ByteArray} (a : Act) (v : Value) (h : BaseFB b2 ps data a) : BaseFB b2 ps data (a.put (some 30) v) := by
  obtain ⟨u, rfl⟩ := h
  exact ⟨fun i => if i = 30 then v else u i, by kernel_rfl⟩
theorem BaseFB.put31 {b2 : Nat} {ps data : ByteArray} (a : Act) (v : Value) (h : BaseFB b2 ps data a) : BaseFB b2 ps data (a.put (some 31) v) := by
  obtain ⟨u, rfl⟩ := h
  exact ⟨fun i => if i = 31 then v else u i, by kernel_rfl⟩
theorem BaseFB.put32 {b2 : Nat} {ps data : ByteArray} (a : Act) (v : Value) (h : BaseFB b2 ps data a) : BaseFB b2 ps data (a.put (some 32) v) := by
  obtain ⟨u, rfl⟩ := h
  exact ⟨fun i => if i = 32 then v else u i, by kernel_rfl⟩
theorem BaseFB.put33 {b2 : Nat} {ps data : ByteArray} (a : Act) (v : Value) (h : BaseFB b2 ps data a) : BaseFB b2 ps data (a.put (some 33) v) := by
  obtain ⟨u, rfl⟩ := h
  exact ⟨fun i => if i = 33 then v else u i, by kernel_rfl⟩
theorem BaseFB.put4 {b2 : Nat} {ps data : ByteArray} (a : Act) (v : Value) (h : BaseFB b2 ps data a) : BaseFB b2 ps data (a.put (some 4) v) := by
  obtain ⟨u, rfl⟩ := h
  exact ⟨fun i => if i = 4 then v else u i, by kernel_rfl⟩

set_option maxHeartbeats 2000000 in
set_option maxRecDepth 100000 in
theorem walk_FrameBack (k l q e : Int) (data : ByteArray) (hs : data.size ≤ maxLen) (w : World) (hT : Tabs w) :
    Calls Tryd.prog 6 #[.agg (ta k l q e), .string data] w fun r w' => r = .returned (.bool true) ∧ Below w.heap.size w w' := by
  have hm2 : (data.size : Int) ≤ 9223372036854775807 := by unfold maxLen at hs; omega
  have HT := Lib.hid hT
  have HS := Lib.hid hs
  clear hT hs
  go_enter Tryd.func6, Tryd.ntmps6
  go_wp2_with fail
  refine (works_any _ (HT.out.after ((Below.refl _ _).alloc (Nat.le_refl _) _))).mono ?_
  rintro r w0 ⟨rfl, hb0⟩
  have HK0 : Hid (CB w w.heap.size k l q e w0) := ⟨(Blk.new w (ta k l q e) 23).after hb0, (HT.out.after ((Below.refl _ _).alloc (Nat.le_refl _) _)).after hb0, ((Below.refl _ _).alloc (Nat.le_refl _) _).trans (hb0.mono (by simp))⟩
  clear hb0
  go_wp2_with (refine wpList_load_row rfl 23 (.tmp 2) rfl w.heap.size rfl 23 (ta k l q e) (0, 0) _ HK0.out.1 Tryd.underlying23 rfl size_tag ?_)
  refine (fr_enc k l q e data _ HS.out HK0.out.2.1).mono ?_
  rintro r w1 ⟨rfl, hb1⟩
  have HK1 := Lib.hid (HK0.out.call hb1)
  clear hb1 HK0
  by_cases hok : LenOk data.size ∧ MayT k l q e
  · obtain ⟨hl, hm⟩ := hok
    have he := enc_page hl hm
    have hbk := page_back data hl hm
    have hpz := pageS_size k l q e data
    have hbl := blank_len hl
    have h256 : data.size ≤ 256 := hl.2.1
    obtain ⟨ps, hps⟩ : ∃ ps, pageS k l q e data = ps := ⟨_, rfl⟩
    obtain ⟨bl, hble⟩ : ∃ b, ffS ((data.size + 24) / 8 * 9) = b := ⟨_, rfl⟩
    have hbz : bl.size = ps.size := by rw [← hble, ffS_size, ← hps, hpz]
    rw [hps] at he hbk hpz
    rw [hble] at hbl
    rw [he.1, he.2]
    have HP1 := Lib.hid hbk
    have HBL := Lib.hid hbl
    have HBZ := Lib.hid hbz
    have HS1 : Hid (ps.size ≤ 400) := by show ps.size ≤ 400; omega
    clear he hbk hpz hbl hps hble hbz hl hm
    go_wp2_with fail
    refine wp_region_list3 (SV (vsFB k l q e ps data bl) []) (BaseFB w.heap.size ps data) (CB w w.heap.size k l q e) Goes (RV (vsFB k l q e ps data bl) (fun _ _ _ => False)) rfl (by kernel_rfl) (RV.ext no_special5) ?base HK1.out.drew (BaseFB.of _ (by kernel_rfl)) ?steps ?fin
    case base => exact ⟨BaseFB.put19, BaseFB.put20, BaseFB.put21, BaseFB.put22, BaseFB.put23, BaseFB.put24, BaseFB.put25, BaseFB.put26, BaseFB.put27, BaseFB.put28, BaseFB.put29, BaseFB.put30, BaseFB.put31, BaseFB.put32, BaseFB.put33, BaseFB.put4, trivial⟩
    case steps =>
      refine ⟨?_, ?_, ?_, ?_, ?_, ?_, ?_, ?_, ?_, ?_, ?_, ?_, ?_, ?_, ?_, ?_, trivial⟩
      all_goals
        intro a w' hC hB hR
        obtain ⟨u, rfl⟩ := hB
        have HC := Lib.hid hC
        clear hC
      · clear hR
        refine if_yes (by kernel_rfl) ?_
        unfold Oper.wp
        go_simp
        exact ⟨.string ps, rfl, HC.out, Below.refl _ _, rfl⟩
      · have h19 : u 19 = .string ps := hR ⟨0, .data⟩ (by simp) rfl
        clear hR
        simp only [h19]
        clear h19
        refine if_yes (by kernel_rfl) ?_
        unfold Oper.wp
        go_simp
        refine (fr_dec ps _ HS1.out HC.out.2.1).mono ?_
        rintro r w2 ⟨rfl, hb2⟩
        rw [HP1.out]
        exact ⟨.agg (pv 2 k l q e data), rfl, HC.out.call hb2, hb2, rfl⟩
      · clear hR
        refine if_yes (by kernel_rfl) ?_
        exact wp_load_row 23 (.tmp 2) rfl _ rfl 23 _ (0, 0) _ HC.out.1 Tryd.underlying23 rfl size_tag ⟨.agg (ta k l q e), rfl, HC.out, Below.refl _ _, rfl⟩
      · clear hR
        refine if_yes (by kernel_rfl) ?_
        unfold Oper.wp
        go_simp
        exact ⟨.string data, rfl, HC.out, Below.refl _ _, rfl⟩
      · have h21 : u 21 = .agg (ta k l q e) := hR ⟨2, .data⟩ (by simp) rfl
        have h22 : u 22 = .string data := hR ⟨3, .data⟩ (by simp) rfl
        have hbu := fun w => build_page 2 k l q e data w
        clear hR
        simp only [h21, h22]
        clear h21 h22
        refine if_yes (by kernel_rfl) ?_
        unfold Oper.wp
        go_simp
        exact ⟨.agg (pv 2 k l q e data), rfl, HC.out, Below.refl _ _, rfl⟩
      · have h20 : u 20 = .agg (pv 2 k l q e data) := hR ⟨1, .data⟩ (by simp) rfl
        have h23 : u 23 = .agg (pv 2 k l q e data) := hR ⟨4, .data⟩ (by simp) rfl
        clear hR
        simp only [h20, h23]
        clear h20 h23
        refine if_yes (by kernel_rfl) ?_
        refine wp_eql_page (.tmp 20) (.tmp 23) rfl 2 k l q e 2 k l q e _ _ rfl rfl ?_
        rw [sameP_self]
        exact ⟨.bool true, rfl, HC.out, Below.refl _ _, rfl⟩
      · have h24 : u 24 = .bool true := hR ⟨5, .data⟩ (by simp) rfl
        clear hR
        simp only [h24]
        clear h24
        refine if_yes (by kernel_rfl) ?_
        unfold Oper.wp
        go_simp
        exact ⟨.bool true, rfl, HC.out, Below.refl _ _, rfl⟩
      · have g25 : u 25 = .bool true := hR ⟨6, .guard⟩ (by simp) rfl
        clear hR
        simp only [g25]
        clear g25
        refine if_yes (by kernel_rfl) ?_
        unfold Oper.wp
        go_simp
        exact ⟨.string ps, rfl, HC.out, Below.refl _ _, rfl⟩
      · have g25 : u 25 = .bool true := hR ⟨6, .guard⟩ (by simp) rfl
        have h26 : u 26 = .string ps := hR ⟨7, .data⟩ (by simp) rfl
        clear hR
        simp only [g25, h26]
        clear g25 h26
        refine if_yes (by kernel_rfl) ?_
        unfold Oper.wp
        go_simp
        exact ⟨.int .i64 (ps.size : Nat), rfl, HC.out, Below.refl _ _, rfl⟩
      · have g25 : u 25 = .bool true := hR ⟨6, .guard⟩ (by simp) rfl
        clear hR
        simp only [g25]
        clear g25
        refine if_yes (by kernel_rfl) ?_
        unfold Oper.wp
        go_simp
        exact ⟨.string data, rfl, HC.out, Below.refl _ _, rfl⟩
      · have g25 : u 25 = .bool true := hR ⟨6, .guard⟩ (by simp) rfl
        have h28 : u 28 = .string data := hR ⟨9, .data⟩ (by simp) rfl
        clear hR
        simp only [g25, h28]
        clear g25 h28
        refine if_yes (by kernel_rfl) ?_
        unfold Oper.wp
        go_simp
        exact ⟨.int .i64 (data.size : Nat), rfl, HC.out, Below.refl _ _, rfl⟩
      · have g25 : u 25 = .bool true := hR ⟨6, .guard⟩ (by simp) rfl
        have h29 : u 29 = .int .i64 (data.size : Nat) := hR ⟨10, .data⟩ (by simp) rfl
        clear hR
        simp only [g25, h29]
        clear g25 h29
        refine if_yes (by kernel_rfl) ?_
        unfold Oper.wp
        go_simp
        refine (fr_blank (data.size : Int) _).mono ?_
        rintro r w2 ⟨rfl, hb2⟩
        rw [HBL.out]
        exact ⟨.string bl, rfl, HC.out.call hb2, hb2, rfl⟩
      · have g25 : u 25 = .bool true := hR ⟨6, .guard⟩ (by simp) rfl
        have h30 : u 30 = .string bl := hR ⟨11, .data⟩ (by simp) rfl
        clear hR
        simp only [g25, h30]
        clear g25 h30
        refine if_yes (by kernel_rfl) ?_
        unfold Oper.wp
        go_simp
        exact ⟨.int .i64 (bl.size : Nat), rfl, HC.out, Below.refl _ _, rfl⟩
      · have g25 : u 25 = .bool true := hR ⟨6, .guard⟩ (by simp) rfl
        have h27 : u 27 = .int .i64 (ps.size : Nat) := hR ⟨8, .data⟩ (by simp) rfl
        have h31 : u 31 = .int .i64 (bl.size : Nat) := hR ⟨12, .data⟩ (by simp) rfl
        have hbz := HBZ.out
        clear hR
        simp only [g25, h27, h31]
        clear g25 h27 h31
        refine if_yes (by kernel_rfl) ?_
        unfold Oper.wp
        go_simp
        exact ⟨.bool true, rfl, HC.out, Below.refl _ _, rfl⟩
      · have h25 : u 25 = .bool true := hR ⟨6, .data⟩ (by simp) rfl
        have h32 : u 32 = .bool true := hR ⟨13, .data⟩ (by simp) rfl
        clear hR
        simp only [h25, h32]
        clear h25 h32
        refine if_yes (by kernel_rfl) ?_
        unfold Oper.wp
        go_simp
        exact ⟨.bool true, rfl, HC.out, Below.refl _ _, rfl⟩
      · have h33 : u 33 = .bool true := hR ⟨14, .data⟩ (by simp) rfl
        clear hR
        simp only [h33]
        clear h33
        refine if_yes (by kernel_rfl) ?_
        unfold Oper.wp
        go_simp
        exact ⟨.bool true, rfl, HC.out, Below.refl _ _, rfl⟩
    case fin =>
      intro a w' hC hB hR
      have h4 : a.tmps.getD 4 undef = .bool true := hR 15 (by decide)
      clear hR
      have HK := Lib.hid hC.2.2
      clear hC
      obtain ⟨u, rfl⟩ := hB
      have h4 : u 4 = .bool true := h4
      simp only [h4]
      clear h4
      go_wp2_with fail
      go_ret
      exact ⟨rfl, HK.out⟩
  · have he := enc_none hok
    have HKb := Lib.hid HK1.out.2.2
    obtain ⟨c, hc⟩ : ∃ c, frE k l q e data = c := ⟨_, rfl⟩
    rw [hc] at he
    rw [he.1, hc]
    have hc2 := he.2
    clear hok he hc HK1
    rcases hc2 with rfl | rfl
    all_goals
      go_wp2_with fail
      go_ret
      exact ⟨rfl, HKb.out⟩

end Go.Proofs.YtlacmfacigfioaaDoor

/- Pages with two bits turned in one chunk, and at most one in each other; pages turned chunk by chunk. No Go in sight. -/
namespace Go.Proofs.YtlacmfacigfioaaDoor
set_option maxRecDepth 100000
open Go.RowKit

abbrev bad0 : Array Value := pv 4 0 0 0 0 ByteArray.empty
/-- two bits of one chunk turned -/
def flip2 (x : ByteArray) (a p q : Nat) : ByteArray := flipS (flipS x (9 * a + p / 8) (p % 8)) (9 * a + q / 8) (q % 8)
theorem flip2_size (x : ByteArray) (c a p q : Nat) (hx : x.size = 9 * c) (ha : a < c) (hp : p < 72) (hq : q < 72) : (flip2 x a p q).size = 9 * c := by
  unfold flip2
  have h1 : (flipS x (9 * a + p / 8) (p % 8)).size = 9 * c := by rw [flipS_size _ _ _ (by omega), hx]
  rw [flipS_size _ _ _ (by omega), h1]
theorem flip2_same (x : ByteArray) (c a p q : Nat) (hx : x.size = 9 * c) (ha : a < c) (hp : p < 72) (hq : q < 72) : piece (flip2 x a p q) 9 a = flipS (flipS (piece x 9 a) (p / 8) (p % 8)) (q / 8) (q % 8) := by
  unfold flip2
  have h1 : (flipS x (9 * a + p / 8) (p % 8)).size = 9 * c := by rw [flipS_size _ _ _ (by omega), hx]
  rw [piece_flip_same _ _ _ _ (by omega) (by omega), piece_flip_same _ _ _ _ (by omega) (by omega)]
theorem flip2_other (x : ByteArray) (c a m p q : Nat) (hx : x.size = 9 * c) (ha : a < c) (hp : p < 72) (hq : q < 72) (hne : m ≠ a) : piece (flip2 x a p q) 9 m = piece x 9 m := by
  unfold flip2
  have h1 : (flipS x (9 * a + p / 8) (p % 8)).size = 9 * c := by rw [flipS_size _ _ _ (by omega), hx]
  rw [piece_flip_other _ _ _ _ _ (by omega) (by omega) hne, piece_flip_other _ _ _ _ _ (by omega) (by omega) hne]
theorem zs_flip2 (s : ByteArray) (p q : Nat) (hs : s.size = 9) (hp : p < 72) (hq : q < 72) : zs (bs s) ≤ zs (bs (flipS (flipS s (p / 8) (p % 8)) (q / 8) (q % 8))) + 2 := by
  have h1 := (zs_flip s (p / 8) (p % 8) (by omega) (by omega)).2
  have hz : (flipS s (p / 8) (p % 8)).size = 9 := by rw [flipS_size _ _ _ (by omega), hs]
  have h2 := (zs_flip (flipS s (p / 8) (p % 8)) (q / 8) (q % 8) (by omega) (by omega)).2
  omega
theorem dec_two' (s : ByteArray) (p q : Nat) (hs : s.size = 8) (hp : p < 72) (hq : q < 72) (hne : p ≠ q) : (decS (flipS (flipS (encS s) (p / 8) (p % 8)) (q / 8) (q % 8))).2 = 4 := by
  have hz : (encS s).size = 9 := by rw [encS_size, hs]
  have hn : flipS (flipS (encS s) (p / 8) (p % 8)) (q / 8) (q % 8) ≠ encS s := by
    intro h
    have := flipS_ne (encS s) (p / 8) (p % 8) (q / 8) (q % 8) (by omega) (by omega) (by omega) (by omega) (by rw [h])
    omega
  rw [dec_two s hs (p / 8) (p % 8) (q / 8) (q % 8) (by omega) (by omega) (by omega) (by omega) hn]

/-- with two bits turned in one chunk it is told as bad, and with one more in another one -/
def Fragile (x : ByteArray) (c : Nat) : Prop := x.size = 9 * c ∧ ∀ a p q, a < c → p < 72 → q < 72 → p ≠ q → pageV (flip2 x a p q) = bad0 ∧
  ∀ o r, o < c → o ≠ a → r < 72 → pageV (flipS (flip2 x a p q) (9 * o + r / 8) (r % 8)) = bad0
theorem page_fragile {k l q e : Int} (data : ByteArray) (c : Nat) (hl : LenOk data.size) (hc : (data.size + 24) / 8 = c) : Fragile (pageS k l q e data) c := by
  obtain ⟨h8, h256, hmod⟩ := hl
  have hz := inner_size k l q e data
  have hs : (pageS k l q e data).size = 9 * c := by rw [pageS_size]; omega
  have hp : ∀ j, j < c → piece (pageS k l q e data) 9 j = encS (piece (inner k l q e data) 8 j) := by
    intro j hj
    unfold pageS
    rw [hc]
    exact piece_chunks _ c (by omega) j hj
  have hp8 : ∀ j, j < c → (piece (inner k l q e data) 8 j).size = 8 := fun j hj => piece_size _ 8 j (by omega)
  have hp9 : ∀ j, j < c → (piece (pageS k l q e data) 9 j).size = 9 := fun j hj => piece_size _ 9 j (by omega)
  have hf4 : 4 ≤ zs (bs (piece (pageS k l q e data) 9 0)) := by rw [hp 0 (by omega)]; exact first_zeros k l q e data
  refine ⟨hs, fun a p1 q1 ha hp1 hq1 hne => ?_⟩
  have hs2 := flip2_size _ c a p1 q1 hs ha hp1 hq1
  have hsame := flip2_same _ c a p1 q1 hs ha hp1 hq1
  have hbad : (decS (piece (flip2 (pageS k l q e data) a p1 q1) 9 a)).2 = 4 := by
    rw [hsame, hp a ha]; exact dec_two' _ p1 q1 (hp8 a ha) hp1 hq1 hne
  have h0 : (a = 0 → 2 ≤ zs (bs (piece (flip2 (pageS k l q e data) a p1 q1) 9 0))) ∧ (a ≠ 0 → 4 ≤ zs (bs (piece (flip2 (pageS k l q e data) a p1 q1) 9 0))) := by
    constructor
    · intro e0
      subst e0
      rw [hsame]
      have := zs_flip2 (piece (pageS k l q e data) 9 0) p1 q1 (hp9 0 ha) hp1 hq1
      omega
    · intro e0
      rw [flip2_other _ c a 0 p1 q1 hs ha hp1 hq1 (Ne.symm e0)]
      exact hf4
  refine ⟨page_told hs2 (by omega) (by omega) ha (blank_first (by by_cases e0 : a = 0; exact h0.1 e0; have := h0.2 e0; omega) (by omega)) hbad, fun o r ho hoa hr => ?_⟩
  have hs3 : (flipS (flip2 (pageS k l q e data) a p1 q1) (9 * o + r / 8) (r % 8)).size = 9 * c := by rw [flipS_size _ _ _ (by omega), hs2]
  have ho2 := fun m (hm : m ≠ o) => piece_flip_other (flip2 (pageS k l q e data) a p1 q1) o m (r / 8) (r % 8) (by omega) (by omega) hm
  have hos := piece_flip_same (flip2 (pageS k l q e data) a p1 q1) o (r / 8) (r % 8) (by omega) (by omega)
  refine page_told hs3 (by omega) (by omega) ha (blank_first ?_ (by omega)) (by rw [ho2 a (Ne.symm hoa)]; exact hbad)
  by_cases e0 : o = 0
  · subst e0
    rw [hos]
    have h4 := h0.2 (Ne.symm hoa)
    have hz9 : (piece (flip2 (pageS k l q e data) a p1 q1) 9 0).size = 9 := piece_size _ 9 0 (by omega)
    have := (zs_flip (piece (flip2 (pageS k l q e data) a p1 q1) 9 0) (r / 8) (r % 8) (by omega) (by omega)).2
    omega
  · rw [ho2 0 (Ne.symm e0)]
    by_cases e1 : a = 0
    · exact h0.1 e1
    · have := h0.2 e1; omega
theorem blank_first' {s : ByteArray} {c k : Nat} (h : 2 ≤ zs (bs (piece s 9 k))) (hk : k < c) : blankTo s c = false := by
  refine blank_no_later (k := k + 1) ?_ hk
  show (blankTo s k && decide (zs (piece s 9 k).data.toList ≤ 1)) = false
  rw [decide_eq_false (by have : zs (bs (piece s 9 k)) = zs (piece s 9 k).data.toList := rfl; omega), Bool.and_false]
theorem blank_fragile (c : Nat) (hc : 4 ≤ c) (hc2 : c ≤ 35) : Fragile (ffS (9 * c)) c := by
  have hs := ffS_size (9 * c)
  refine ⟨hs, fun a p1 q1 ha hp1 hq1 hne => ?_⟩
  have hs2 := flip2_size _ c a p1 q1 hs ha hp1 hq1
  have hsame := flip2_same _ c a p1 q1 hs ha hp1 hq1
  rw [ff_piece _ _ _ (by omega)] at hsame
  have hb := ff_bad p1 q1 hp1 hq1 hne
  rw [← hsame] at hb
  refine ⟨page_told hs2 hc hc2 ha (blank_first' hb.2 ha) hb.1, fun o r ho hoa hr => ?_⟩
  have hs3 : (flipS (flip2 (ffS (9 * c)) a p1 q1) (9 * o + r / 8) (r % 8)).size = 9 * c := by rw [flipS_size _ _ _ (by omega), hs2]
  have ho2 := piece_flip_other (flip2 (ffS (9 * c)) a p1 q1) o a (r / 8) (r % 8) (by omega) (by omega) (Ne.symm hoa)
  rw [← ho2] at hb
  exact page_told hs3 hc hc2 ha (blank_first' hb.2 ha) hb.1
theorem second_ne (a b : Int) : first72 a < 72 ∧ second72 a b < 72 ∧ first72 a ≠ second72 a b := by
  obtain ⟨p, hp⟩ : ∃ p, first72 a = p := ⟨_, rfl⟩
  obtain ⟨m, hm⟩ : ∃ m, (b % 71).toNat = m := ⟨_, rfl⟩
  have hp72 : p < 72 := by rw [← hp]; unfold first72; omega
  have hm71 : m < 71 := by omega
  have hq : second72 a b = (p + 1 + m) % 72 := by unfold second72; rw [hp, hm]
  rw [hp, hq]; omega
theorem hurt_flip2 {x : ByteArray} {c : Nat} (a b : Int) (h : x.size = 9 * c) (hc : 4 ≤ c) : hurtT x a b = flip2 x 0 (first72 a) (second72 a b) := by
  unfold hurtT flip2
  rw [if_neg (by omega)]
  simp only [Nat.mul_zero, Nat.zero_add]

/-- a page and a blank one, while chunk by chunk a bit is turned in both: k chunks have been looked at -/
def FixI (z : ByteArray) (c k : Nat) (s b : ByteArray) (f : Int) : Prop := ∃ t : Nat → Option (Nat × Nat), OneEach z s c t ∧ (∀ j, k ≤ j → t j = none) ∧ b.size = 9 * c ∧ (∀ j, j < c → zs (bs (piece b 9 j)) ≤ 1) ∧ (∀ j, k ≤ j → j < c → piece b 9 j = ffS 9) ∧ f = if anyTo t c then 3 else 2
theorem anyTo_none (t : Nat → Option (Nat × Nat)) : ∀ k, (∀ j, j < k → t j = none) → anyTo t k = false
  | 0, _ => rfl
  | k + 1, h => by
    show (anyTo t k || (t k).isSome) = false
    rw [anyTo_none t k (fun j hj => h j (by omega)), h k (by omega)]; rfl
theorem anyTo_some (t : Nat → Option (Nat × Nat)) (j : Nat) (h : (t j).isSome = true) : ∀ k, j < k → anyTo t k = true
  | 0, hk => by omega
  | k + 1, hk => by
    show (anyTo t k || (t k).isSome) = true
    by_cases e : j = k
    · subst e; rw [h, Bool.or_true]
    · rw [anyTo_some t j h k (by omega)]; rfl
theorem FixI.start (k l q e : Int) (data : ByteArray) (c : Nat) (hl : LenOk data.size) (hc : (data.size + 24) / 8 = c) : FixI (inner k l q e data) c 0 (pageS k l q e data) (ffS (9 * c)) 2 := by
  obtain ⟨h8, h256, hmod⟩ := hl
  have hz := inner_size k l q e data
  refine ⟨fun _ => none, ⟨by rw [pageS_size]; omega, fun j hj => ?_⟩, fun _ _ => rfl, ffS_size _, fun j hj => ?_, fun j _ hj => ff_piece _ _ _ (by omega), by rw [anyTo_none _ _ (fun _ _ => rfl)]; rfl⟩
  · show piece (pageS k l q e data) 9 j = _
    unfold pageS
    rw [hc]
    exact piece_chunks _ c (by omega) j hj
  · rw [ff_piece _ _ _ (by omega), bs_ff, zs_ff]; omega
theorem FixI.skip {z : ByteArray} {c k : Nat} {s b : ByteArray} {f : Int} (h : FixI z c k s b f) : FixI z c (k + 1) s b f := by
  obtain ⟨t, h1, h2, h3, h4, h5, h6⟩ := h
  exact ⟨t, h1, fun j hj => h2 j (by omega), h3, h4, fun j hj hc => h5 j (by omega) hc, h6⟩
theorem FixI.flip {z : ByteArray} {c k : Nat} {s b : ByteArray} {f : Int} (h : FixI z c k s b f) (hk : k < c) (r : Nat) (hr : r < 72) :
    FixI z c (k + 1) (flipS s (9 * k + r / 8) (r % 8)) (flipS b (9 * k + r / 8) (r % 8)) 3 := by
  obtain ⟨t, h1, h2, h3, h4, h5, h6⟩ := h
  have hs := h1.1
  refine ⟨fun j => if j = k then some (r / 8, r % 8) else t j, ⟨by rw [flipS_size _ _ _ (by omega), hs], fun j hj => ?_⟩, fun j hj => ?_, by rw [flipS_size _ _ _ (by omega), h3], fun j hj => ?_, fun j hj hc => ?_, ?_⟩
  · by_cases e : j = k
    · subst e
      have h7 := h1.2 j hj
      rw [h2 j (Nat.le_refl _)] at h7
      simp only [if_pos]
      refine ⟨by omega, by omega, ?_⟩
      rw [piece_flip_same _ _ _ _ (by omega) (by omega), h7]
    · have h7 := h1.2 j hj
      simp only [if_neg e]
      rw [piece_flip_other _ _ _ _ _ (by omega) (by omega) e]
      exact h7
  · show (if j = k then some (r / 8, r % 8) else t j) = none
    rw [if_neg (by omega)]; exact h2 j (by omega)
  · by_cases e : j = k
    · subst e
      rw [piece_flip_same _ _ _ _ (by omega) (by omega), h5 j (Nat.le_refl _) hj]
      exact ff_one _ _ (by omega) (by omega)
    · rw [piece_flip_other _ _ _ _ _ (by omega) (by omega) e]; exact h4 j hj
  · rw [piece_flip_other _ _ _ _ _ (by omega) (by omega) (by omega)]; exact h5 j (by omega) hc
  · rw [anyTo_some _ k (by simp) c hk]; rfl
theorem FixI.sizes {z : ByteArray} {c k : Nat} {s b : ByteArray} {f : Int} (h : FixI z c k s b f) : s.size = 9 * c ∧ b.size = 9 * c := by
  obtain ⟨t, h1, h2, h3, _⟩ := h
  exact ⟨h1.1, h3⟩
theorem FixI.end {k l q e : Int} {data : ByteArray} {c m : Nat} {s b : ByteArray} {f : Int} (h : FixI (inner k l q e data) c m s b f) (hl : LenOk data.size) (hm : MayT k l q e) (hc : (data.size + 24) / 8 = c) :
    pageV s = pv f k l q e data ∧ pageV b = pv 1 0 0 0 0 ByteArray.empty := by
  obtain ⟨t, h1, h2, h3, h4, h5, h6⟩ := h
  have hl2 := hl
  obtain ⟨h8, h256, hmod⟩ := hl2
  refine ⟨?_, blank_erased h3 (by omega) (by omega) h4⟩
  rw [h6]
  exact page_fixed data s c t hl hm hc h1

end Go.Proofs.YtlacmfacigfioaaDoor

/- Parameters that are slices or arrays of numbers: opened; shut again by Below.trod (an argument reads behind the call as it did). -/
namespace Go.Proofs.YtlacmfacigfioaaDoor
open Go.RowKit Go.ChangeShapes Go.WideShapes Go.ChangeAt

/-- the cells of a slice of numbers -/
def IntsArg (w : World) (oa : Option Addr) (zs : List Int) : Prop := ∀ i, i < zs.length → ∃ a, oa = some a ∧ a.block < w.heap.size ∧ w.cell? (a.add i) = some (.int .i64 (zs.getD i 0))
theorem add_block (a : Addr) (i : Nat) : (a.add i).block = a.block := by unfold Addr.add; split <;> rfl

section
variable {H : Type} {enc : TypeId × Value → H} {P : Program} {w : World}
theorem open_intsv {base : Nat} {r : Reach} {b0 : Nat} {t e : TypeId} {v : Value} {d : DataW H} {ps : List MemPlace} (ht : P.underlying t = some (.slice e)) (he : P.underlying e = some (.int .i64)) (hc : P.cellsOf e = 1)
    (hval : Value.okWide P w r b0 t v) (hd : DataW.Trod enc P w base (fun _ => true) true t v d ps) :
    ∃ (oa : Option Addr) (cap : Nat) (zs : List Int), v = .slice oa zs.length cap ∧ zs.length ≤ maxLen ∧ IntsArg w oa zs ∧ (∀ n ∈ zs, (Lit.int .i64 n).wf = true) := by
  obtain ⟨a0, len, cap, rfl⟩ := okWide_slice ht hval
  obtain ⟨fuel, hf⟩ := hd
  rcases open_ints ht he hc hf with ⟨hcs, _⟩ | ⟨a, len', cap', zs, hcs, _, hl, hm, hz, _, hcell, hwz⟩
  · simp [Value.cells] at hcs
    obtain ⟨rfl, rfl, rfl⟩ := hcs
    exact ⟨none, 0, [], rfl, Nat.zero_le _, fun i hi => absurd hi (Nat.not_lt_zero i), fun n hn => by cases hn⟩
  · simp [Value.cells] at hcs
    obtain ⟨rfl, rfl, rfl⟩ := hcs
    simp only [if_true] at hz
    have hlen : (zs.take len).length = len := by rw [List.length_take]; omega
    refine ⟨some a, cap, zs.take len, by rw [hlen], by omega, fun i hi => ?_, fun n hn => hwz n (List.mem_of_mem_take hn)⟩
    have hi2 : i < zs.length := by omega
    have h := hcell i hi2
    refine ⟨a, rfl, by have := cell_lt h; rwa [add_block] at this, ?_⟩
    rw [h]
    simp [List.getD, List.getElem?_take_of_lt (show i < len by omega)]
theorem open_arr4 {base : Nat} {sp : Nat → Bool} {held : Bool} {r : Reach} {b0 : Nat} {t e : TypeId} {v : Value} {d : DataW H} {ps : List MemPlace} (ht : P.underlying t = some (.array 4 e)) (he : P.underlying e = some (.int .i64)) (hc : P.cellsOf e = 1) (hC : P.cellsOf t = 4)
    (hval : Value.okWide P w r b0 t v) (hd : DataW.Trod enc P w base sp held t v d ps) : ∃ a b c x : Int, v = .agg #[.int .i64 a, .int .i64 b, .int .i64 c, .int .i64 x] := by
  obtain ⟨cs, rfl, hsz, _⟩ : ∃ cs, v = .agg cs ∧ cs.size = P.cellsOf t ∧ Row.okWide P w r b0 t cs := by
    simpa [Value.okWide, ht] using hval
  obtain ⟨v0, v1, v2, v3, rfl⟩ := Joins.array4 (hsz.trans hC)
  obtain ⟨fuel, hf⟩ := hd
  obtain ⟨xs, m, _, ex, _, hl, hel⟩ := DataW.trod_array ht hf
  obtain ⟨x0, y0⟩ : ∃ x, xs[0]? = some x := ⟨xs[0], by simp⟩
  obtain ⟨x1, y1⟩ : ∃ x, xs[1]? = some x := ⟨xs[1], by simp⟩
  obtain ⟨x2, y2⟩ : ∃ x, xs[2]? = some x := ⟨xs[2], by simp⟩
  obtain ⟨x3, y3⟩ : ∃ x, xs[3]? = some x := ⟨xs[3], by simp⟩
  have k0 := (hel 0 (by omega)).trans y0; have k1 := (hel 1 (by omega)).trans y1; have k2 := (hel 2 (by omega)).trans y2; have k3 := (hel 3 (by omega)).trans y3
  rw [hc] at k0 k1 k2 k3
  obtain ⟨a, a0, _⟩ := DataW.trod_int he k0
  obtain ⟨b, b0, _⟩ := DataW.trod_int he k1
  obtain ⟨c, c0, _⟩ := DataW.trod_int he k2
  obtain ⟨x, z0, _⟩ := DataW.trod_int he k3
  simp [Value.cells] at a0 b0 c0 z0
  exact ⟨a, b, c, x, by rw [a0, b0, c0, z0]⟩
end

end Go.Proofs.YtlacmfacigfioaaDoor
