/- Texts of one claim, merged: StL2, Args, Str2, ArgsX, StL3, StL4, Near, Inv5. -/
import Derived.Test.YtgnjknboahcmgaaS7
import Derived.Deep.MidRow
import Derived.BigQuiet
import Derived.Test.YtgnjknboahcmgaaS1
import Derived.Carry
import Derived.ChangeSlices
import Derived.Lib.SmallJoins
import Derived.ShutString
import Derived.OpenShut
import Derived.Deep.Slices
import Derived.Test.YtgnjknboahcmgaaS2

/- Layer 14, the laws: StateRises. -/
namespace Go.Proofs.Ytgnjknboahcmgaa
set_option maxRecDepth 100000
open Go.RowKit

theorem Rw4.out {B K0 K1 g0 g1 g2 g3 k0 k1 k2 k3 n b : Nat} {x : Sn} {w w' : World} (h : Rw4 B g0 g1 g2 g3 k0 k1 k2 k3 n b x w) (ho : Out K0 K1 w w') (hB : K1 ≤ B) : Rw4 B g0 g1 g2 g3 k0 k1 k2 k3 n b x w' := by
  obtain ⟨⟨b0, b1, b2, b3⟩, r0, r1, r2, r3⟩ := h
  exact ⟨⟨b0, b1, b2, b3⟩, r0.blk (ho.2 _ (by omega) r0.lt), r1.blk (ho.2 _ (by omega) r1.lt), r2.blk (ho.2 _ (by omega) r2.lt), r3.blk (ho.2 _ (by omega) r3.lt)⟩
theorem Rw4.mono {B C g0 g1 g2 g3 k0 k1 k2 k3 n b : Nat} {x : Sn} {w : World} (h : Rw4 B g0 g1 g2 g3 k0 k1 k2 k3 n b x w) (hC : C ≤ B) : Rw4 C g0 g1 g2 g3 k0 k1 k2 k3 n b x w := by
  obtain ⟨⟨b0, b1, b2, b3⟩, r⟩ := h
  exact ⟨⟨by omega, by omega, by omega, by omega⟩, r⟩
/-- box q holds what is durable, its rows from B on -/
def BxS (B q : Nat) (g0 g1 g2 g3 k0 k1 k2 k3 : Nat) (x : Sn) (w : World) : Prop := B ≤ q ∧ Blk w q (kpV g0 g1 g2 g3 k0 k1 k2 k3 4 8) 32 ∧ Rw4 B g0 g1 g2 g3 k0 k1 k2 k3 4 8 x w
theorem BxS.call {B q g0 g1 g2 g3 k0 k1 k2 k3 : Nat} {x : Sn} {w w' : World} (h : BxS B q g0 g1 g2 g3 k0 k1 k2 k3 x w) (hb : Below w.heap.size w w') : BxS B q g0 g1 g2 g3 k0 k1 k2 k3 x w' := ⟨h.1, h.2.1.after hb, h.2.2.call hb⟩
theorem BxS.out {B K0 K1 q g0 g1 g2 g3 k0 k1 k2 k3 : Nat} {x : Sn} {w w' : World} (h : BxS B q g0 g1 g2 g3 k0 k1 k2 k3 x w) (ho : Out K0 K1 w w') (hB : K1 ≤ B) : BxS B q g0 g1 g2 g3 k0 k1 k2 k3 x w' := ⟨h.1, h.2.1.out ho (Or.inr (Nat.le_trans hB h.1)), h.2.2.out ho hB⟩
theorem BxS.put {B q p g0 g1 g2 g3 k0 k1 k2 k3 : Nat} {x : Sn} {w : World} {cs : Array Value} (h : BxS B q g0 g1 g2 g3 k0 k1 k2 k3 x w) (hp : Blk w p cs 32) (hne : p ≠ q) (ds : Array Value) : BxS B q g0 g1 g2 g3 k0 k1 k2 k3 x (w.setRow p ds) := ⟨h.1, h.2.1.put_other hne _, h.2.2.put hp _⟩
theorem BxS.new {B q g0 g1 g2 g3 k0 k1 k2 k3 : Nat} {x : Sn} {w : World} {cs : Array Value} (hB : B ≤ q) (hq : Blk w q cs 32) (h : Rw4 B g0 g1 g2 g3 k0 k1 k2 k3 4 8 x w) : BxS B q g0 g1 g2 g3 k0 k1 k2 k3 x (w.setRow q (kpV g0 g1 g2 g3 k0 k1 k2 k3 4 8)) := ⟨hB, hq.put _, h.put hq _⟩
theorem Kp.put {K0 K1 o p : Nat} {x : Sn} {w : World} (h : Kp K0 K1 w o x) (hp : K1 ≤ p) (ds : Array Value) : Kp K0 K1 (w.setRow p ds) o x := by
  obtain ⟨K, h⟩ := h
  refine ⟨K, h.keep (by rw [size_setRow]; exact Nat.le_refl _) fun b _ hl => ?_⟩
  simp only [World.setRow, Array.getElem?_modify]
  rw [if_neg (by omega)]
theorem kp_size {K0 K1 o : Nat} {x : Sn} {w : World} (h : Kp K0 K1 w o x) : K0 ≤ w.heap.size ∧ K1 ≤ w.heap.size := by
  obtain ⟨K, h⟩ := h
  have h1 := h.1.2
  have h2 := h.1.1.1.1
  omega
/-- four and eight numbers -/
def Len48 (x : Sn) : Prop := x.f.length = 4 ∧ x.c.length = 8 ∧ x.s.length = 8 ∧ x.t.length = 8
theorem Len48.app {x : Sn} (h : Len48 x) (r : Rc) : Len48 (appX x r) := by
  unfold appX
  split
  · obtain ⟨h1, h2, h3, h4⟩ := LenE.chg x r
    obtain ⟨e1, e2, e3, e4⟩ := h
    exact ⟨h1.trans e1, h2.trans e2, h3.trans e3, h4.trans e4⟩
  · exact h
/-- State of a small keeper -/
theorem kp_state {K0 K1 o : Nat} {x : Sn} {w : World} (h : Kp K0 K1 w o x) (hl : Len48 x) : Calls Try.prog 13 #[.pointer (some ⟨o, 0, none⟩)] w (StT 4 8 x w) := by
  obtain ⟨K, h⟩ := h
  have h1 := h.len
  obtain ⟨e1, e2, _, _⟩ := hl
  have hn : K.n = 4 := by omega
  have hb : K.b = 8 := by omega
  have h2 := st_state K0 K1 o K x w h (by omega)
  rw [hn, hb] at h2
  exact h2
/-- counts of at most m -/
def Cnt (m : Int) (x : Sn) : Prop := (∀ v ∈ x.s, 0 ≤ v ∧ v ≤ m) ∧ ∀ v ∈ x.t, 0 ≤ v ∧ v ≤ m
theorem Cnt.b {m : Int} {x : Sn} (h : Cnt m x) (hm : m ≤ 16777215) : CntB x := ⟨fun v hv => by have := h.1 v hv; omega, fun v hv => by have := h.2 v hv; omega⟩
theorem cnt_at {m : Int} {l : List Int} (h : ∀ v ∈ l, 0 ≤ v ∧ v ≤ m) (hm : 0 ≤ m) (j : Nat) : 0 ≤ l.getD j 0 ∧ l.getD j 0 ≤ m := by
  rw [List.getD_eq_getElem?_getD]
  rcases Nat.lt_or_ge j l.length with h1 | h1
  · rw [List.getElem?_eq_getElem h1]; exact h _ (List.getElem_mem h1)
  · rw [List.getElem?_eq_none h1]; exact ⟨Int.le_refl _, hm⟩
theorem dif_bd {l l' : List Int} {m : Int} (h : ∀ j, 0 ≤ l'.getD j 0 - l.getD j 0 ∧ l'.getD j 0 - l.getD j 0 ≤ m) : ∀ n : Nat, 0 ≤ dif l l' n ∧ dif l l' n ≤ m * n
  | 0 => by simp [dif]
  | n + 1 => by
    have h1 := dif_bd h n
    have h2 := h n
    unfold dif
    have h3 : m * ((n + 1 : Nat) : Int) = m * n + m := by rw [Int.natCast_add, Int.mul_add]; simp
    omega

/-- the world of a round of StateRises -/
def RiW (w0 : World) (K0 K1 o q p rb : Nat) (z z2 : Sn) (g0 g1 g2 g3 k0 k1 k2 k3 h0 h1 h2 h3 j0 j1 j2 j3 : Nat) (k a b : Int) (w : World) : Prop :=
  (Kp K0 K1 w o z2 ∧ Below w0.heap.size w0 w ∧ p ≠ q) ∧ BxS K1 q g0 g1 g2 g3 k0 k1 k2 k3 z w ∧ BxS K1 p h0 h1 h2 h3 j0 j1 j2 j3 z2 w ∧ Blk w rb (ra k a b) 37
theorem RiW.call {w0 w w' : World} {K0 K1 o q p rb : Nat} {z z2 : Sn} {g0 g1 g2 g3 k0 k1 k2 k3 h0 h1 h2 h3 j0 j1 j2 j3 : Nat} {k a b : Int} (hw : w0.heap.size ≤ w.heap.size) (h : RiW w0 K0 K1 o q p rb z z2 g0 g1 g2 g3 k0 k1 k2 k3 h0 h1 h2 h3 j0 j1 j2 j3 k a b w) (hb : Below w.heap.size w w') : RiW w0 K0 K1 o q p rb z z2 g0 g1 g2 g3 k0 k1 k2 k3 h0 h1 h2 h3 j0 j1 j2 j3 k a b w' :=
  ⟨⟨h.1.1.call hb, h.1.2.1.trans (hb.mono hw), h.1.2.2⟩, h.2.1.call hb, h.2.2.1.call hb, h.2.2.2.after hb⟩

set_option maxHeartbeats 4000000 in
theorem walk_StateRises (oa : Option Addr) (cap : Nat) (l : List Rc) (_ : l.length ≤ cap ∧ cap ≤ maxLen) (w : World) (hr : XsAt w oa l) :
    Calls Try.prog 5 #[.slice oa l.length cap] w fun e w' => e = .returned (.bool true) ∧ Below w.heap.size w w' := by
  obtain ⟨L, hL⟩ : ∃ L, l.length = L := ⟨_, rfl⟩
  have HLN := Lib.hid hL
  have HXS := Lib.hid hr
  rw [hL]
  clear hr hL
  go_enter Try.func5, Try.ntmps5
  go_wp2_with fail
  refine (st_works _).mono ?_
  rintro e w1 ⟨rfl, hb1⟩
  have HB1 := Lib.hid hb1
  clear hb1
  go_wp2_with fail
  refine (st_geo _).mono ?_
  rintro e w2 ⟨rfl, hb2⟩
  have HB2 := Lib.hid (HB1.out.trans (hb2.mono HB1.out.size))
  clear hb2 HB1
  go_wp2_with fail
  refine (st_small _).mono ?_
  rintro e w3 ⟨⟨o, rfl, hk3⟩, hb3⟩
  have HXB : Hid (XsB w2.heap.size w3 oa l) := XsB.of HXS.out (HB2.out.trans (hb3.mono HB2.out.size)) HB2.out.size
  have HB3 := Lib.hid (HB2.out.trans (hb3.mono HB2.out.size))
  have HK3 := Lib.hid hk3
  have HZ : Hid (w.heap.size ≤ w2.heap.size) := HB2.out.size
  obtain ⟨K0, hK0⟩ : ∃ K, w2.heap.size = K := ⟨_, rfl⟩
  obtain ⟨K1, hK1⟩ : ∃ K, w3.heap.size = K := ⟨_, rfl⟩
  rw [hK0] at HK3 HXB HZ
  rw [hK1] at HK3
  have HSZ := Lib.hid hK1
  clear hb3 hk3 HB2 hK0 hK1 HXS
  by_cases hbig : 100 < L
  · have hbz : (100 : Int) < (L : Int) := by omega
    clear hbig
    go_wp2_with fail
    go_ret
    exact ⟨rfl, HB3.out⟩
  have hbz : ¬ (100 : Int) < (L : Int) := by omega
  have HLB : Hid (L ≤ 100) := by show L ≤ 100; omega
  clear hbig
  go_wp2_with fail
  refine (kp_state HK3.out ⟨rfl, rfl, rfl, rfl⟩).mono ?_
  rintro e w4 ⟨⟨g0, g1, g2, g3, k0, k1, k2, k3, rfl, hr4⟩, hb4⟩
  have HK4 := Lib.hid (HK3.out.call hb4)
  have HR4 : Hid (Rw4 K1 g0 g1 g2 g3 k0 k1 k2 k3 4 8 (newX 8 4) w4) := hr4.mono (by rw [HSZ.out]; exact Nat.le_refl _)
  have HB4 := Lib.hid (HB3.out.trans (hb4.mono HB3.out.size))
  have HS4 : Hid (K1 ≤ w4.heap.size ∧ K0 ≤ K1) := ⟨(kp_size HK4.out).2, by have := (kp_size HK3.out).1; have := HSZ.out; omega⟩
  have HX4 := Lib.hid (HXB.out.keep (hb4.mono (kp_size HK3.out).1))
  clear hr4 hb4 HK3 HB3 HXB
  have HZ4 : Hid (Blk (w4.alloc (.cells #[.slice none 0 0, .slice none 0 0, .slice none 0 0, .slice none 0 0] 32)) w4.heap.size nil4 32) := Blk.new _ _ _
  go_upto_region 7 with (refine wpList_store_row rfl 32 (.tmp 5) (.tmp 36) rfl w4.heap.size (kpV g0 g1 g2 g3 k0 k1 k2 k3 4 8) rfl rfl 32 nil4 HZ4.out size_state rfl (kpV_one _ _ _ _ _ _ _ _ _ _) ?_)
  have hb5 : Below w4.heap.size w4 ((w4.alloc (.cells #[.slice none 0 0, .slice none 0 0, .slice none 0 0, .slice none 0 0] 32)).setRow w4.heap.size (kpV g0 g1 g2 g3 k0 k1 k2 k3 4 8)) := below_put (Nat.le_refl _) _ ((Below.refl _ _).alloc (Nat.le_refl _) _)
  have HK5 := Lib.hid (HK4.out.call hb5)
  have HQ5 : Hid (BxS K1 w4.heap.size g0 g1 g2 g3 k0 k1 k2 k3 (newX 8 4) ((w4.alloc (.cells #[.slice none 0 0, .slice none 0 0, .slice none 0 0, .slice none 0 0] 32)).setRow w4.heap.size (kpV g0 g1 g2 g3 k0 k1 k2 k3 4 8))) :=
    BxS.new HS4.out.1 HZ4.out (HR4.out.call ((Below.refl _ _).alloc (Nat.le_refl _) _))
  have HB5 := Lib.hid (HB4.out.trans (hb5.mono HB4.out.size))
  have HX5 := Lib.hid (HX4.out.keep (hb5.mono (kp_size HK4.out).1))
  generalize (w4.alloc (.cells #[.slice none 0 0, .slice none 0 0, .slice none 0 0, .slice none 0 0] 32)).setRow w4.heap.size (kpV g0 g1 g2 g3 k0 k1 k2 k3 4 8) = w5 at HK5 HQ5 HB5 HX5 ⊢
  obtain ⟨q, hq⟩ : ∃ q, w4.heap.size = q := ⟨_, rfl⟩
  rw [hq] at HQ5 ⊢
  clear hq hb5 HZ4 HK4 HR4 HB4 HX4
  go_wp2_with (refine wpList_load_row rfl 32 (.tmp 5) rfl q rfl 32 (kpV g0 g1 g2 g3 k0 k1 k2 k3 4 8) (0, 0) _ HQ5.out.2.1 Try.underlying32 rfl size_state ?_)
  refine (st_whole _ g0 g1 g2 g3 k0 k1 k2 k3).mono ?_
  rintro e w6 ⟨rfl, hb6⟩
  have HK6 := Lib.hid (HK5.out.call hb6)
  have HQ6 := Lib.hid (HQ5.out.call hb6)
  have HB6 := Lib.hid (HB5.out.trans (hb6.mono HB5.out.size))
  have HX6 := Lib.hid (HX5.out.keep (hb6.mono (kp_size HK5.out).1))
  clear hb6 HK5 HQ5 HB5 HX5
  go_wp2_with fail
  go_loopw [42] (fun iv wr => ∃ (i : Nat) (z : Sn) (g0 g1 g2 g3 k0 k1 k2 k3 : Nat), i ≤ L ∧ iv = .int .i64 i ∧ Hid (Kp K0 K1 wr o z) ∧ Hid (BxS K1 q g0 g1 g2 g3 k0 k1 k2 k3 z wr) ∧ Hid (Below w.heap.size w wr) ∧ Hid (XsB K0 wr oa l) ∧ Hid (Len48 z ∧ Cnt i z)) (fun iv _ => L + 1 - (intOf iv).toNat)
  case atStart => exact ⟨0, newX 8 4, g0, g1, g2, g3, k0, k1, k2, k3, Nat.zero_le _, rfl, HK6.out, HQ6.out, HB6.out, HX6.out, ⟨rfl, rfl, rfl, rfl⟩, fun v hv => by rw [List.eq_of_mem_replicate hv]; decide, fun v hv => by rw [List.eq_of_mem_replicate hv]; decide⟩
  case round =>
    clear HK6 HQ6 HB6 HX6
    obtain ⟨i, z, g0, g1, g2, g3, k0, k1, k2, k3, hi, rfl, HK, HQ, HB, HX, HLC⟩ := hrel
    by_cases hlt : i < L
    · have hltz : (i : Int) < (L : Int) := by omega
      have hil : i < l.length := by have := HLN.out; omega
      obtain ⟨g, o2, rfl, hg, hrow⟩ := HX.out (by intro h0; rw [h0] at hil; exact absurd hil (Nat.not_lt_zero _))
      have r1 := hrow i hil
      obtain ⟨⟨k, a, b⟩, hrc⟩ : ∃ r, l[i] = r := ⟨_, rfl⟩
      rw [hrc] at r1
      have HR1 : Hid (wr.rangeAt g (o2 + i * 3) (ra k a b).toList) := r1
      have i0 : (0 : Int) ≤ (i : Int) := by omega
      have HI : Hid (i ≤ 99) := by have := HLB.out; show i ≤ 99; omega
      clear r1 hrow hrc hg hil
      have HZ0 : Hid (Blk (wr.alloc (.cells #[.int .i64 0, .int .i64 0, .int .i64 0] 37)) wr.heap.size (ra 0 0 0) 37) := Blk.new _ _ _
      go_upto_region 12 with (first
        | (refine wpList_load_mid rfl 37 (.tmp 44) rfl g (o2 + i * 3) rfl (ra k a b).toList _ HR1.out Try.underlying37 rfl size_rec ?_)
        | (refine wpList_store_row rfl 37 (.tmp 7) (.tmp 45) rfl wr.heap.size (ra k a b) rfl rfl 37 (ra 0 0 0) HZ0.out size_rec rfl (ra_one _ _ _) ?_))
      have hb2 : Below wr.heap.size wr ((wr.alloc (.cells #[.int .i64 0, .int .i64 0, .int .i64 0] 37)).setRow wr.heap.size (ra k a b)) := below_put (Nat.le_refl _) _ ((Below.refl _ _).alloc (Nat.le_refl _) _)
      have HK2 := Lib.hid (HK.out.call hb2)
      have HQ2 := Lib.hid (HQ.out.call hb2)
      have HW2 := Lib.hid (HB.out.trans (hb2.mono HB.out.size))
      have HX2 := Lib.hid (HX.out.keep (hb2.mono (kp_size HK.out).1))
      have HRB2 : Hid (Blk ((wr.alloc (.cells #[.int .i64 0, .int .i64 0, .int .i64 0] 37)).setRow wr.heap.size (ra k a b)) wr.heap.size (ra k a b) 37) := HZ0.out.put _
      have hrb : K1 ≤ wr.heap.size := (kp_size HK.out).2
      obtain ⟨rb, hrbe⟩ : ∃ rb, wr.heap.size = rb := ⟨_, rfl⟩
      generalize (wr.alloc (.cells #[.int .i64 0, .int .i64 0, .int .i64 0] 37)).setRow wr.heap.size (ra k a b) = w2 at HK2 HQ2 HW2 HX2 HRB2 ⊢
      rw [hrbe] at HRB2 hrb ⊢
      have HRBK := Lib.hid hrb
      clear hb2 HZ0 HR1 HK HQ HB HX hrbe hrb
      go_wp2_with (refine wpList_load_row rfl 37 (.tmp 7) rfl rb rfl 37 (ra k a b) (0, 0) _ HRB2.out Try.underlying37 rfl size_rec ?_)
      refine (ap_is k a b HK2.out (HLC.out.2.b (by have := HI.out; omega))).mono ?_
      rintro e w3 ⟨rfl, hk3, ho3⟩
      have HK3 := Lib.hid hk3
      have HQ3 := Lib.hid (HQ2.out.out ho3 (Nat.le_refl _))
      have HW3 := Lib.hid (HW2.out.trans (ho3.1.mono HZ.out))
      have HX3 := Lib.hid (HX2.out.keep ho3.1)
      have HRB3 := Lib.hid (HRB2.out.out ho3 (Or.inr HRBK.out))
      clear hk3 ho3 HK2 HQ2 HW2 HX2 HRB2
      obtain ⟨ec, hec⟩ : ∃ ec, appE z ⟨k, a, b⟩ = ec := ⟨_, rfl⟩
      obtain ⟨z2, hz2⟩ : ∃ z2, appX z ⟨k, a, b⟩ = z2 := ⟨_, rfl⟩
      have HL2 : Hid (Len48 z2) := by rw [← hz2]; exact HLC.out.1.app _
      have HRI := Lib.hid (rises_n z ⟨k, a, b⟩ i (by have := HI.out; omega) HLC.out.2.1 HLC.out.2.2)
      have HRF : Hid (∀ j, z.f.getD j 0 ≤ z2.f.getD j 0) := by rw [← hz2]; exact rises_f z ⟨k, a, b⟩
      rw [hz2] at HK3 HRI
      rw [hec]
      have HEC := Lib.hid hec
      clear hec hz2
      go_wp2_with fail
      refine (kp_state HK3.out HL2.out).mono ?_
      rintro e w4 ⟨⟨h0, h1, h2, h3, j0, j1, j2, j3, rfl, hr4⟩, hb4⟩
      have HR4 : Hid (Rw4 K1 h0 h1 h2 h3 j0 j1 j2 j3 4 8 z2 w4) := hr4.mono (kp_size HK3.out).2
      have HK4 := Lib.hid (HK3.out.call hb4)
      have HQ4 := Lib.hid (HQ3.out.call hb4)
      have HW4 := Lib.hid (HW3.out.trans (hb4.mono HW3.out.size))
      have HX4 := Lib.hid (HX3.out.keep (hb4.mono (kp_size HK3.out).1))
      have HRB4 := Lib.hid (HRB3.out.after hb4)
      clear hr4 hb4 HK3 HQ3 HW3 HX3 HRB3
      have HZ4 : Hid (Blk (w4.alloc (.cells #[.slice none 0 0, .slice none 0 0, .slice none 0 0, .slice none 0 0] 32)) w4.heap.size nil4 32) := Blk.new _ _ _
      go_upto_region 14 with (refine wpList_store_row rfl 32 (.tmp 9) (.tmp 50) rfl w4.heap.size (kpV h0 h1 h2 h3 j0 j1 j2 j3 4 8) rfl rfl 32 nil4 HZ4.out size_state rfl (kpV_one _ _ _ _ _ _ _ _ _ _) ?_)
      have hb5 : Below w4.heap.size w4 ((w4.alloc (.cells #[.slice none 0 0, .slice none 0 0, .slice none 0 0, .slice none 0 0] 32)).setRow w4.heap.size (kpV h0 h1 h2 h3 j0 j1 j2 j3 4 8)) := below_put (Nat.le_refl _) _ ((Below.refl _ _).alloc (Nat.le_refl _) _)
      have hqp : w4.heap.size ≠ q := Nat.ne_of_gt HQ4.out.2.1.lt
      have HP5 : Hid (BxS K1 w4.heap.size h0 h1 h2 h3 j0 j1 j2 j3 z2 ((w4.alloc (.cells #[.slice none 0 0, .slice none 0 0, .slice none 0 0, .slice none 0 0] 32)).setRow w4.heap.size (kpV h0 h1 h2 h3 j0 j1 j2 j3 4 8))) :=
        BxS.new (kp_size HK4.out).2 HZ4.out (HR4.out.call ((Below.refl _ _).alloc (Nat.le_refl _) _))
      have HK5 := Lib.hid (HK4.out.call hb5)
      have HQ5 := Lib.hid (HQ4.out.call hb5)
      have HW5 := Lib.hid (HW4.out.trans (hb5.mono HW4.out.size))
      have HX5 := Lib.hid (HX4.out.keep (hb5.mono (kp_size HK4.out).1))
      have HRB5 := Lib.hid (HRB4.out.after hb5)
      obtain ⟨p, hp⟩ : ∃ p, w4.heap.size = p := ⟨_, rfl⟩
      generalize (w4.alloc (.cells #[.slice none 0 0, .slice none 0 0, .slice none 0 0, .slice none 0 0] 32)).setRow w4.heap.size (kpV h0 h1 h2 h3 j0 j1 j2 j3 4 8) = w5 at HK5 HP5 HQ5 HW5 HX5 HRB5 ⊢
      rw [hp] at HP5 hqp ⊢
      have HPQ := Lib.hid hqp
      clear hp hqp hb5 HZ4 HK4 HQ4 HW4 HX4 HRB4 HR4
      go_wp2_with (refine wpList_load_row rfl 32 (.tmp 9) rfl p rfl 32 (kpV h0 h1 h2 h3 j0 j1 j2 j3 4 8) (0, 0) _ HP5.out.2.1 Try.underlying32 rfl size_state ?_)
      refine (st_whole _ h0 h1 h2 h3 j0 j1 j2 j3).mono ?_
      rintro e w6 ⟨rfl, hb6⟩
      have HV : Hid (RiW w K0 K1 o q p rb z z2 g0 g1 g2 g3 k0 k1 k2 k3 h0 h1 h2 h3 j0 j1 j2 j3 k a b w6) :=
        ⟨⟨HK5.out.call hb6, HW5.out.trans (hb6.mono HW5.out.size), HPQ.out⟩, HQ5.out.call hb6, HP5.out.call hb6, HRB5.out.after hb6⟩
      have HX6 := Lib.hid (HX5.out.keep (hb6.mono (kp_size HK5.out).1))
      clear hb6 HK5 HP5 HQ5 HW5 HX5 HRB5 HPQ HRBK
      go_wp2_with fail
      go_loopw [54] (fun jv wq => ∃ (j : Nat), j ≤ 4 ∧ jv = .int .i64 j ∧ Hid (RiW w K0 K1 o q p rb z z2 g0 g1 g2 g3 k0 k1 k2 k3 h0 h1 h2 h3 j0 j1 j2 j3 k a b wq) ∧ Hid (XsB K0 wq (some ⟨g, o2, none⟩) l)) (fun jv _ => 5 - (intOf jv).toNat)
      case atStart => exact ⟨0, by omega, rfl, HV.out, HX6.out⟩
      case round =>
        clear HV HX6
        obtain ⟨j, hj, rfl, HVq, HXq⟩ := hrel
        by_cases hj4 : j < 4
        · have hjz : (j : Int) < 4 := by omega
          have j0z : (0 : Int) ≤ (j : Int) := by omega
          have c9 : wr.cell? ⟨p, 0, none⟩ = some (.slice (some ⟨h0, 0, none⟩) 4 j0) := HVq.out.2.2.1.2.1.cell 0
          have c5 : wr.cell? ⟨q, 0, none⟩ = some (.slice (some ⟨g0, 0, none⟩) 4 k0) := HVq.out.2.1.2.1.cell 0
          have e9 := HVq.out.2.2.1.2.2.2.1.cell j hj4
          have e5 := HVq.out.2.1.2.2.2.1.cell j hj4
          have hle := HRF.out j
          obtain ⟨u, hu⟩ : ∃ u, z2.f.getD j 0 = u := ⟨_, rfl⟩
          obtain ⟨v, hv⟩ : ∃ v, z.f.getD j 0 = v := ⟨_, rfl⟩
          rw [hu] at e9 hle
          rw [hv] at e5 hle
          have huv : ¬ u < v := by omega
          have HB : Hid (∀ n, Below wr.heap.size wr (wr.drewN n)) := fun n => ⟨rfl, rfl, rfl, Nat.le_refl _, fun _ _ => rfl⟩
          clear hu hv hle
          go_wp2_with fail
          go_quiet (fail)
          go_wp2_with fail
          refine ⟨⟨j + 1, by omega, by go_num, HVq.out.call HVq.out.1.2.1.size (HB.out _), HXq.out.keep ((HB.out _).mono (kp_size HVq.out.1.1).1)⟩, ?_⟩
          simp [intOf]; omega
        · have hj4z : ¬ (j : Int) < 4 := by omega
          clear hj4 hj
          go_wp2_with fail
          go_loopw [10, 69] (fun mv jv wq => ∃ (j : Nat), j ≤ 8 ∧ jv = .int .i64 j ∧ mv = .int .i64 (dif z.s z2.s j + dif z.t z2.t j) ∧ Hid (RiW w K0 K1 o q p rb z z2 g0 g1 g2 g3 k0 k1 k2 k3 h0 h1 h2 h3 j0 j1 j2 j3 k a b wq) ∧ Hid (XsB K0 wq (some ⟨g, o2, none⟩) l)) (fun _ jv _ => 9 - (intOf jv).toNat)
          case atStart => exact ⟨0, by omega, rfl, rfl, HVq.out, HXq.out⟩
          case round =>
            clear HVq HXq
            obtain ⟨j, hj, rfl, rfl, HVq, HXq⟩ := hrel
            by_cases hj8 : j < 8
            · have hjz : (j : Int) < 8 := by omega
              have j0z : (0 : Int) ≤ (j : Int) := by omega
              have c9s : wr.cell? ⟨p, 2, none⟩ = some (.slice (some ⟨h2, 0, none⟩) 8 j2) := HVq.out.2.2.1.2.1.cell 2
              have c5s : wr.cell? ⟨q, 2, none⟩ = some (.slice (some ⟨g2, 0, none⟩) 8 k2) := HVq.out.2.1.2.1.cell 2
              have c9t : wr.cell? ⟨p, 3, none⟩ = some (.slice (some ⟨h3, 0, none⟩) 8 j3) := HVq.out.2.2.1.2.1.cell 3
              have c5t : wr.cell? ⟨q, 3, none⟩ = some (.slice (some ⟨g3, 0, none⟩) 8 k3) := HVq.out.2.1.2.1.cell 3
              have e9s := HVq.out.2.2.1.2.2.2.2.2.1.cell j hj8
              have e5s := HVq.out.2.1.2.2.2.2.2.1.cell j hj8
              have e9t := HVq.out.2.2.1.2.2.2.2.2.2.cell j hj8
              have e5t := HVq.out.2.1.2.2.2.2.2.2.cell j hj8
              have hbs := cnt_at HLC.out.2.1 i0
              have hbt := cnt_at HLC.out.2.2 i0
              have hcs := cnt_at HRI.out.2.1.1 (by omega)
              have hct := cnt_at HRI.out.2.1.2 (by omega)
              have hle := HRI.out.1
              have hi99 := HI.out
              have hds := dif_bd (l := z.s) (l' := z2.s) (m := 100) (fun n => by have := hbs n; have := hcs n; have := hle n; omega) j
              have hdt := dif_bd (l := z.t) (l' := z2.t) (m := 100) (fun n => by have := hbt n; have := hct n; have := hle n; omega) j
              have hstep : dif z.s z2.s (j + 1) + dif z.t z2.t (j + 1) = dif z.s z2.s j + dif z.t z2.t j + ((z2.s.getD j 0 - z.s.getD j 0) + (z2.t.getD j 0 - z.t.getD j 0)) := by
                show dif z.s z2.s j + (z2.s.getD j 0 - z.s.getD j 0) + (dif z.t z2.t j + (z2.t.getD j 0 - z.t.getD j 0)) = _
                omega
              have p1 := hbs j; have p2 := hbt j; have p3 := hcs j; have p4 := hct j; have p5 := hle j
              obtain ⟨m, hm⟩ : ∃ m, dif z.s z2.s j + dif z.t z2.t j = m := ⟨_, rfl⟩
              have hmb : 0 ≤ m ∧ m ≤ 100000 := by omega
              obtain ⟨u, hu⟩ : ∃ u, z2.s.getD j 0 = u := ⟨_, rfl⟩
              obtain ⟨v, hv⟩ : ∃ v, z.s.getD j 0 = v := ⟨_, rfl⟩
              obtain ⟨u', hu'⟩ : ∃ u, z2.t.getD j 0 = u := ⟨_, rfl⟩
              obtain ⟨v', hv'⟩ : ∃ v, z.t.getD j 0 = v := ⟨_, rfl⟩
              rw [hu] at e9s p3 p5 hstep
              rw [hv] at e5s p1 p5 hstep
              rw [hu'] at e9t p4 p5 hstep
              rw [hv'] at e5t p2 p5 hstep
              rw [hm] at hstep ⊢
              obtain ⟨d, hd⟩ : ∃ d, u - v = d := ⟨_, rfl⟩
              obtain ⟨d', hd'⟩ : ∃ d, u' - v' = d := ⟨_, rfl⟩
              rw [hd, hd'] at hstep
              have hw1 : IntKind.i64.wrap (u - v) = d := by rw [IntKind.wrap_i64]; omega
              have hw2 : IntKind.i64.wrap (u' - v') = d' := by rw [IntKind.wrap_i64]; omega
              have hv1 : wrap64 (u - v) = d := by unfold wrap64; omega
              have hv2 : wrap64 (u' - v') = d' := by unfold wrap64; omega
              have hn1 : ¬ d < 0 := by omega
              have hn2 : ¬ d' < 0 := by omega
              have hw3 : IntKind.i64.wrap (d + d') = d + d' := by rw [IntKind.wrap_i64]; omega
              have hw4 : IntKind.i64.wrap (m + (d + d')) = m + (d + d') := by rw [IntKind.wrap_i64]; omega
              have HST := Lib.hid hstep
              have HB : Hid (∀ n, Below wr.heap.size wr (wr.drewN n)) := fun n => ⟨rfl, rfl, rfl, Nat.le_refl _, fun _ _ => rfl⟩
              clear hm hmb hu hv hu' hv' hd hd' p1 p2 p3 p4 p5 hds hdt hle hbs hbt hcs hct hi99 hstep
              go_wp2_with fail
              go_quiet (fail)
              go_wp2_with fail
              go_roundw
              case rel => exact ⟨j + 1, by omega, by go_num, congrArg (Value.int .i64) HST.out.symm, HVq.out.call HVq.out.1.2.1.size (HB.out _), HXq.out.keep ((HB.out _).mono (kp_size HVq.out.1.1).1)⟩
              case measure => simp [intOf]; omega
            · obtain rfl : j = 8 := by omega
              have hM := HRI.out.2.2 8 HLC.out.1.2.1 HLC.out.1.2.2.1 HLC.out.1.2.2.2
              have HQq : Hid (K0 ≤ q ∧ K1 ≤ q ∧ w.heap.size ≤ q) := by
                have h1 := HVq.out.2.1.1
                have h2 := HS4.out.2
                have h3 := HZ.out
                show K0 ≤ q ∧ K1 ≤ q ∧ w.heap.size ≤ q
                omega
              have HN1 : Hid (Kp K0 K1 (wr.setRow q (kpV h0 h1 h2 h3 j0 j1 j2 j3 4 8)) o z2) := HVq.out.1.1.put HQq.out.2.1 _
              have HN2 : Hid (BxS K1 q h0 h1 h2 h3 j0 j1 j2 j3 z2 (wr.setRow q (kpV h0 h1 h2 h3 j0 j1 j2 j3 4 8))) := BxS.new HQq.out.2.1 HVq.out.2.1.2.1 HVq.out.2.2.1.2.2
              have HN3 : Hid (Below w.heap.size w (wr.setRow q (kpV h0 h1 h2 h3 j0 j1 j2 j3 4 8))) := below_put HQq.out.2.2 _ HVq.out.1.2.1
              have HN4 : Hid (XsB K0 (wr.setRow q (kpV h0 h1 h2 h3 j0 j1 j2 j3 4 8)) (some ⟨g, o2, none⟩) l) := HXq.out.keep (below_put HQq.out.1 _ (Below.refl _ _))
              have HN5 : Hid (Len48 z2 ∧ Cnt ((i + 1 : Nat) : Int) z2) := by
                refine ⟨HL2.out, ?_⟩
                rw [show ((i + 1 : Nat) : Int) = (i : Int) + 1 by omega]
                exact HRI.out.2.1
              have c0 : wr.cell? ⟨rb, 0, none⟩ = some (.int .i64 k) := HVq.out.2.2.2.cell 0
              obtain ⟨M, hMe⟩ : ∃ M, dif z.s z2.s 8 + dif z.t z2.t 8 = M := ⟨_, rfl⟩
              rw [hMe] at hM ⊢
              clear hMe hj8 hj
              by_cases hh : HasR z ⟨k, a, b⟩
              · obtain rfl : ec = 0 := HEC.out.symm.trans (if_pos hh)
                by_cases hk4 : k = 4
                · obtain rfl : M = 1 := hM.trans (if_pos ⟨hh, hk4⟩)
                  subst hk4
                  clear hM hh
                  go_wp2_with (first
                    | (refine wpList_load_row rfl 32 (.tmp 9) rfl p rfl 32 (kpV h0 h1 h2 h3 j0 j1 j2 j3 4 8) (0, 0) _ HVq.out.2.2.1.2.1 Try.underlying32 rfl size_state ?_)
                    | (refine wpList_store_row rfl 32 (.tmp 5) (.tmp 120) rfl q (kpV h0 h1 h2 h3 j0 j1 j2 j3 4 8) rfl rfl 32 (kpV g0 g1 g2 g3 k0 k1 k2 k3 4 8) HVq.out.2.1.2.1 size_state rfl (kpV_one _ _ _ _ _ _ _ _ _ _) ?_))
                  refine ⟨⟨i + 1, z2, h0, h1, h2, h3, j0, j1, j2, j3, by omega, by go_num, HN1.out, HN2.out, HN3.out, HN4.out, HN5.out⟩, ?_⟩
                  simp [intOf]; omega
                · obtain rfl : M = 0 := hM.trans (if_neg fun h => hk4 h.2)
                  have hkb : (k == 4) = false := by simp [hk4]
                  clear hM hh hk4
                  go_wp2_with (first
                    | (refine wpList_load_row rfl 32 (.tmp 9) rfl p rfl 32 (kpV h0 h1 h2 h3 j0 j1 j2 j3 4 8) (0, 0) _ HVq.out.2.2.1.2.1 Try.underlying32 rfl size_state ?_)
                    | (refine wpList_store_row rfl 32 (.tmp 5) (.tmp 120) rfl q (kpV h0 h1 h2 h3 j0 j1 j2 j3 4 8) rfl rfl 32 (kpV g0 g1 g2 g3 k0 k1 k2 k3 4 8) HVq.out.2.1.2.1 size_state rfl (kpV_one _ _ _ _ _ _ _ _ _ _) ?_))
                  refine ⟨⟨i + 1, z2, h0, h1, h2, h3, j0, j1, j2, j3, by omega, by go_num, HN1.out, HN2.out, HN3.out, HN4.out, HN5.out⟩, ?_⟩
                  simp [intOf]; omega
              · obtain rfl : ec = 110 := HEC.out.symm.trans (if_neg hh)
                obtain rfl : M = 0 := hM.trans (if_neg fun h => hh h.1)
                clear hM hh
                go_wp2_with (first
                  | (refine wpList_load_row rfl 32 (.tmp 9) rfl p rfl 32 (kpV h0 h1 h2 h3 j0 j1 j2 j3 4 8) (0, 0) _ HVq.out.2.2.1.2.1 Try.underlying32 rfl size_state ?_)
                  | (refine wpList_store_row rfl 32 (.tmp 5) (.tmp 120) rfl q (kpV h0 h1 h2 h3 j0 j1 j2 j3 4 8) rfl rfl 32 (kpV g0 g1 g2 g3 k0 k1 k2 k3 4 8) HVq.out.2.1.2.1 size_state rfl (kpV_one _ _ _ _ _ _ _ _ _ _) ?_))
                refine ⟨⟨i + 1, z2, h0, h1, h2, h3, j0, j1, j2, j3, by omega, by go_num, HN1.out, HN2.out, HN3.out, HN4.out, HN5.out⟩, ?_⟩
                simp [intOf]; omega
    · obtain rfl : i = L := by omega
      have hltz : ¬ (i : Int) < (i : Int) := by omega
      clear hlt
      go_wp2_with fail
      go_ret
      exact ⟨rfl, HB.out⟩

end Go.Proofs.Ytgnjknboahcmgaa

/- Parameters that are slices or arrays of numbers: opened; shut again by Below.trod (an argument reads behind the call as it did). -/
namespace Go.Proofs.Ytgnjknboahcmgaa
open Go.RowKit Go.ChangeShapes Go.WideShapes Go.ChangeAt

theorem add_block (a : Addr) (i : Nat) : (a.add i).block = a.block := by unfold Addr.add; split <;> rfl

section
variable {H : Type} {enc : TypeId × Value → H} {P : Program} {w : World}
end

end Go.Proofs.Ytgnjknboahcmgaa

/- Parameters of two numbers: opened and shut. -/
namespace Go.Proofs.Ytgnjknboahcmgaa
set_option maxRecDepth 100000
open Go.RowKit

section
variable {H : Type} {enc : TypeId × Value → H} {P : Program}
end

end Go.Proofs.Ytgnjknboahcmgaa

/- Parameters that are slices of records: opened; shut again by Below.trod. -/
namespace Go.Proofs.Ytgnjknboahcmgaa
set_option maxRecDepth 100000
open Go.RowKit Go.ChangeShapes Go.WideShapes Go.ChangeAt

instance : Inhabited Rc := ⟨⟨0, 0, 0⟩⟩

section
variable {H : Type} {enc : TypeId × Value → H} {P : Program} {w : World} {base : Nat} {sp : Nat → Bool} {held : Bool}
theorem open_rec {e : TypeId} {g0 g1 g2 : Field} {fuel : Nat} {cs : List Value} {x : DataW H × List MemPlace}
    (h4 : P.underlying e = some (.struct #[g0, g1, g2])) (hC : P.cellsOf e = 3) (go : g0.offset = 0 ∧ g1.offset = 1 ∧ g2.offset = 2) (gc : P.cellsOf g0.type = 1 ∧ P.cellsOf g1.type = 1 ∧ P.cellsOf g2.type = 1)
    (k0 : P.underlying g0.type = some (.int .i64)) (k1 : P.underlying g1.type = some (.int .i64)) (k2 : P.underlying g2.type = some (.int .i64))
    (h : DataW.trod enc P w base sp held fuel e cs = some x) : ∃ A : Rc, cs = A.cells := by
  obtain ⟨us, m2, _, _, hl, hlu, hu⟩ := DataW.trod_struct h4 h
  have hl4 : us.length = 3 := by simpa using hlu
  have hc4 : cs.length = 3 := hl.trans hC
  obtain ⟨c0, c1, c2, rfl⟩ : ∃ a b c, cs = [a, b, c] := by
    match cs, hc4 with
    | [a, b, c], _ => exact ⟨a, b, c, rfl⟩
  obtain ⟨q0, q1, q2⟩ := go
  obtain ⟨r0, r1, r2⟩ := gc
  have u0 := hu 0 g0 rfl
  rw [q0, r0, List.getElem?_eq_getElem (by omega)] at u0
  obtain ⟨t0, v0, _⟩ := DataW.trod_int k0 u0
  have u1 := hu 1 g1 rfl
  rw [q1, r1, List.getElem?_eq_getElem (by omega)] at u1
  obtain ⟨t1, v1, _⟩ := DataW.trod_int k1 u1
  have u2 := hu 2 g2 rfl
  rw [q2, r2, List.getElem?_eq_getElem (by omega)] at u2
  obtain ⟨t2, v2, _⟩ := DataW.trod_int k2 u2
  simp at v0 v1 v2
  exact ⟨⟨t0, t1, t2⟩, by rw [v0, v1, v2]; rfl⟩
end

theorem open_recs {H : Type} {enc : TypeId × Value → H} {w : World} {base : Nat} {r : Go.Reach} {b0 : Nat} {v : Value} {d : DataW H} {ps : List MemPlace}
    (hval : Value.okWide Try.prog w r b0 24 v) (hd : DataW.Trod enc Try.prog w base (fun _ => true) true 24 v d ps) :
    ∃ (oa : Option Addr) (cap : Nat) (l : List Rc), v = .slice oa l.length cap ∧ (l.length ≤ cap ∧ cap ≤ maxLen) ∧ XsAt w oa l := by
  have hu := Try.underlying37
  have hC : Try.prog.cellsOf 37 = 3 := by kernel_rfl
  obtain ⟨a0, len, cap, rfl⟩ := okWide_slice Try.underlying24 hval
  obtain ⟨fuel, hf⟩ := hd
  rcases Deep.open_slice Try.underlying24 hf with ⟨hcs, _⟩ | ⟨a, len', cap', m, n, D, Pl, hcs, _, hl, hm, hmm, _, hx⟩
  · simp [Value.cells] at hcs
    obtain ⟨rfl, rfl, rfl⟩ := hcs
    exact ⟨none, 0, [], rfl, ⟨Nat.zero_le _, Nat.zero_le _⟩, XsAt.nil _ _⟩
  · simp [Value.cells] at hcs
    obtain ⟨rfl, rfl, rfl⟩ := hcs
    simp only [if_true] at hmm
    have each : ∀ i, i < len → ∃ A : Rc, ∀ t, t < 3 → w.cell? ((a.add (i * 3)).add t) = (A.cells)[t]? := by
      intro i hi
      obtain ⟨cs', h1, h2⟩ := hx i (by omega)
      rw [hC] at h1
      obtain ⟨_, hlen, hcell⟩ := World.cells?_some h1
      obtain ⟨A, hA⟩ : ∃ A : Rc, cs' = A.cells := open_rec hu hC ⟨rfl, rfl, rfl⟩ ⟨by kernel_rfl, by kernel_rfl, by kernel_rfl⟩ Try.underlying3 Try.underlying3 Try.underlying3 h2
      subst hA
      exact ⟨A, fun t ht => hcell t ht⟩
    obtain ⟨f, hf2⟩ := Deep.choose_lt each
    refine ⟨some a, cap, (List.range len).map f, by simp, ⟨by simp; omega, by omega⟩, fun hne => ?_⟩
    have hlen : 0 < len := by
      rcases Nat.eq_zero_or_pos len with h | h
      · subst h; simp at hne
      · exact h
    obtain ⟨b, off, spot⟩ := a
    have h00 : w.cell? (((⟨b, off, spot⟩ : Addr).add (0 * 3)).add 0) = some (.int .i64 (f 0).k) := hf2 0 hlen 0 (by omega)
    have hspot : spot = none := by simpa [Addr.add] using World.cell?_spot h00
    subst hspot
    refine ⟨b, off, rfl, ?_, fun i hi j v hj => ?_⟩
    · have := cell_lt h00
      rwa [add_block, add_block] at this
    · have hi2 : i < len := by simpa using hi
      have hj4 : j < 3 := (List.getElem?_eq_some_iff.1 hj).1
      have h := hf2 i hi2 j hj4
      rw [Addr.add_lit, Addr.add_lit] at h
      rw [h]
      simpa using hj

end Go.Proofs.Ytgnjknboahcmgaa

/- Layer 14, the laws: StateOrder. -/
namespace Go.Proofs.Ytgnjknboahcmgaa
set_option maxRecDepth 100000
open Go.RowKit

theorem fls_snoc (x : Sn) (l : List Rc) (r : Rc) : flsX x (l ++ [r]) = flX (flsX x l) r := by unfold flsX; rw [List.foldl_append]; rfl
theorem fls_cnt (l : List Rc) (b n : Nat) : CntB (flsX (newX b n) l) := by
  obtain ⟨_, _, h3, h4⟩ := fls_len l (newX b n)
  unfold CntB
  rw [h3, h4]
  exact cnt_new b n
theorem fls_48 (l : List Rc) : Len48 (flsX (newX 8 4) l) := by
  obtain ⟨h1, h2, h3, h4⟩ := fls_len l (newX 8 4)
  unfold Len48
  rw [h1, h2, h3, h4]
  exact ⟨rfl, rfl, rfl, rfl⟩
/-- the records of the second round, as they come -/
def rndL (l : List Rc) (c n : Nat) : List Rc := (List.range n).map fun i => l.getD ((2 * l.length - 1 - i + c) % l.length) ⟨0, 0, 0⟩
theorem rndL_snoc (l : List Rc) (c n : Nat) : rndL l c (n + 1) = rndL l c n ++ [l.getD ((2 * l.length - 1 - n + c) % l.length) ⟨0, 0, 0⟩] := by unfold rndL; rw [List.range_succ, List.map_append]; rfl
theorem rndL_mem (l : List Rc) (c : Nat) (r : Rc) : r ∈ l ↔ r ∈ rndL l c (2 * l.length) := by
  unfold rndL
  constructor
  · intro h
    obtain ⟨j, hj, rfl⟩ := List.mem_iff_getElem.1 h
    obtain ⟨i, hi, he⟩ := round_all l.length c j hj
    refine List.mem_map.2 ⟨i, List.mem_range.2 hi, ?_⟩
    rw [he, List.getD_eq_getElem?_getD, List.getElem?_eq_getElem hj]
    rfl
  · intro h
    obtain ⟨i, hi, rfl⟩ := List.mem_map.1 h
    have h0 : 0 < l.length := by have := List.mem_range.1 hi; omega
    have h1 := Nat.mod_lt (2 * l.length - 1 - i + c) h0
    rw [List.getD_eq_getElem?_getD, List.getElem?_eq_getElem h1]
    exact List.getElem_mem h1
theorem flX_app {x : Sn} {k a b : Int} (h : k = 1 ∨ k = 2) : flX x ⟨k, a, b⟩ = appX x ⟨k, a, b⟩ := if_pos h
theorem flX_not {x : Sn} {k a b : Int} (h : ¬ (k = 1 ∨ k = 2)) : flX x ⟨k, a, b⟩ = x := if_neg h

/-- two keepers, and the records -/
def TwoK (w0 : World) (K0 K1 J0 J1 o p : Nat) (oa : Option Addr) (l : List Rc) (x y : Sn) (w : World) : Prop := (Kp K0 K1 w o x ∧ Kp J0 J1 w p y) ∧ (XsB K0 w oa l ∧ Below w0.heap.size w0 w) ∧ w0.heap.size ≤ K0 ∧ K0 ≤ K1 ∧ K1 ≤ J0 ∧ J0 ≤ J1
theorem TwoK.call {w0 w w' : World} {K0 K1 J0 J1 o p : Nat} {oa : Option Addr} {l : List Rc} {x y : Sn} (h : TwoK w0 K0 K1 J0 J1 o p oa l x y w) (hb : Below w.heap.size w w') : TwoK w0 K0 K1 J0 J1 o p oa l x y w' :=
  ⟨⟨h.1.1.call hb, h.1.2.call hb⟩, ⟨h.2.1.1.keep (hb.mono (kp_size h.1.1).1), h.2.1.2.trans (hb.mono h.2.1.2.size)⟩, h.2.2⟩
theorem TwoK.fst {w0 w w' : World} {K0 K1 J0 J1 o p : Nat} {oa : Option Addr} {l : List Rc} {x y z : Sn} (h : TwoK w0 K0 K1 J0 J1 o p oa l x y w) (ho : Out K0 K1 w w') (hk : Kp K0 K1 w' o z) : TwoK w0 K0 K1 J0 J1 o p oa l z y w' :=
  ⟨⟨hk, h.1.2.out ho (Or.inr h.2.2.2.2.1)⟩, ⟨h.2.1.1.keep ho.1, h.2.1.2.trans (ho.1.mono h.2.2.1)⟩, h.2.2⟩
theorem TwoK.snd {w0 w w' : World} {K0 K1 J0 J1 o p : Nat} {oa : Option Addr} {l : List Rc} {x y z : Sn} (h : TwoK w0 K0 K1 J0 J1 o p oa l x y w) (ho : Out J0 J1 w w') (hk : Kp J0 J1 w' p z) : TwoK w0 K0 K1 J0 J1 o p oa l x z w' :=
  ⟨⟨h.1.1.out ho (Or.inl h.2.2.2.2.1), hk⟩, ⟨h.2.1.1.keep (ho.1.mono (by have := h.2.2; omega)), h.2.1.2.trans (ho.1.mono (by have := h.2.2; omega))⟩, h.2.2⟩

set_option maxHeartbeats 4000000 in
theorem walk_StateOrder (oa : Option Addr) (cap : Nat) (l : List Rc) (f : Int) (_ : l.length ≤ cap ∧ cap ≤ maxLen) (_ : (Lit.int .i64 f).wf = true) (w : World) (hr : XsAt w oa l) :
    Calls Try.prog 6 #[.slice oa l.length cap, .int .i64 f] w fun e w' => e = .returned (.bool true) ∧ Below w.heap.size w w' := by
  obtain ⟨L, hL⟩ : ∃ L, l.length = L := ⟨_, rfl⟩
  have HLN := Lib.hid hL
  have HXS := Lib.hid hr
  rw [hL]
  clear hr hL
  go_enter Try.func6, Try.ntmps6
  go_wp2_with fail
  refine (st_works _).mono ?_
  rintro e w1 ⟨rfl, hb1⟩
  have HB1 := Lib.hid hb1
  clear hb1
  by_cases hbig : 60 < L
  · have hbz : decide ((60 : Int) < (L : Int)) = true := decide_eq_true (by omega)
    clear hbig
    go_wp2_with fail
    go_ret
    exact ⟨rfl, HB1.out⟩
  have hbz : decide ((60 : Int) < (L : Int)) = false := decide_eq_false (by omega)
  have HLB : Hid (L ≤ 60) := by show L ≤ 60; omega
  clear hbig
  go_wp2_with fail
  refine (st_geo _).mono ?_
  rintro e w2 ⟨rfl, hb2⟩
  have HB2 := Lib.hid (HB1.out.trans (hb2.mono HB1.out.size))
  clear hb2 HB1
  go_wp2_with fail
  refine (st_small _).mono ?_
  rintro e w3 ⟨⟨o, rfl, hk3⟩, hb3⟩
  have HXB : Hid (XsB w2.heap.size w3 oa l) := XsB.of HXS.out (HB2.out.trans (hb3.mono HB2.out.size)) HB2.out.size
  have HB3 := Lib.hid (HB2.out.trans (hb3.mono HB2.out.size))
  have HK3 := Lib.hid hk3
  have HZ : Hid (w.heap.size ≤ w2.heap.size ∧ w2.heap.size ≤ w3.heap.size) := ⟨HB2.out.size, hb3.size⟩
  clear hb3 hk3 HB2 HXS
  go_wp2_with fail
  refine (st_geo _).mono ?_
  rintro e w4 ⟨rfl, hb4⟩
  have HX4 := Lib.hid (HXB.out.keep (hb4.mono HZ.out.2))
  have HB4 := Lib.hid (HB3.out.trans (hb4.mono HB3.out.size))
  have HK4 := Lib.hid (HK3.out.call hb4)
  have HZ4 := Lib.hid hb4.size
  clear hb4 HB3 HK3 HXB
  go_wp2_with fail
  refine (st_small _).mono ?_
  rintro e w5 ⟨⟨p, rfl, hk5⟩, hb5⟩
  have HT : Hid (TwoK w w2.heap.size w3.heap.size w4.heap.size w5.heap.size o p oa l (newX 8 4) (newX 8 4) w5) :=
    ⟨⟨HK4.out.call hb5, hk5⟩, ⟨HX4.out.keep (hb5.mono (kp_size HK4.out).1), HB4.out.trans (hb5.mono HB4.out.size)⟩, HZ.out.1, HZ.out.2, HZ4.out, hb5.size⟩
  clear hb5 hk5 HX4 HB4 HK4 HZ HZ4
  generalize w2.heap.size = K0 at HT
  generalize w3.heap.size = K1 at HT
  generalize w4.heap.size = J0 at HT
  generalize w5.heap.size = J1 at HT
  go_wp2_with fail
  go_loopw [43] (fun iv wr => ∃ (i : Nat), i ≤ L ∧ iv = .int .i64 i ∧ Hid (TwoK w K0 K1 J0 J1 o p oa l (flsX (newX 8 4) (l.take i)) (newX 8 4) wr)) (fun iv _ => L + 1 - (intOf iv).toNat)
  case atStart => exact ⟨0, Nat.zero_le _, rfl, HT.out⟩
  case round =>
    clear HT
    obtain ⟨i, hi, rfl, HT⟩ := hrel
    have hi60 : i ≤ 60 := by have := HLB.out; omega
    by_cases hlt : i < L
    · have hltz : (i : Int) < (L : Int) := by omega
      have hil : i < l.length := by have := HLN.out; omega
      obtain ⟨g, o2, rfl, hg, hrow⟩ := HT.out.2.1.1 (by intro h0; rw [h0] at hil; exact absurd hil (Nat.not_lt_zero _))
      have r1 := hrow i hil
      have hstep : l.take (i + 1) = l.take i ++ [l[i]] := by rw [List.take_add_one, List.getElem?_eq_getElem hil]; rfl
      have hfs : flsX (newX 8 4) (l.take (i + 1)) = flX (flsX (newX 8 4) (l.take i)) l[i] := by rw [hstep, fls_snoc]
      obtain ⟨⟨k, a, b⟩, hrc⟩ : ∃ r, l[i] = r := ⟨_, rfl⟩
      rw [hrc] at r1 hfs
      have HR1 : Hid (wr.rangeAt g (o2 + i * 3) (ra k a b).toList) := r1
      have ck : wr.cell? ⟨g, o2 + i * 3, none⟩ = some (.int .i64 k) := r1 0 _ rfl
      have i0 : (0 : Int) ≤ (i : Int) := by omega
      have HCB : Hid (CntB (flsX (newX 8 4) (l.take i))) := fls_cnt _ _ _
      have HFS := Lib.hid hfs
      clear r1 hrow hrc hg hil hstep hfs
      by_cases hk1 : k = 1
      · subst hk1
        go_wp2_with (refine wpList_load_mid rfl 37 (.tmp 63) rfl g (o2 + i * 3) rfl (ra 1 a b).toList _ HR1.out Try.underlying37 rfl size_rec ?_)
        refine (ap_is 1 a b HT.out.1.1 HCB.out).mono ?_
        rintro e w7 ⟨rfl, hk7, ho7⟩
        have HN : Hid (TwoK w K0 K1 J0 J1 o p (some ⟨g, o2, none⟩) l (flsX (newX 8 4) (l.take (i + 1))) (newX 8 4) w7) := by
          rw [HFS.out, flX_app (by decide)]
          exact HT.out.fst ho7 hk7
        clear hk7 ho7 HT HFS ck HR1
        go_wp2_with fail
        go_roundw
        case rel => exact ⟨i + 1, hlt, by go_num, HN⟩
        case measure => simp [intOf]; omega
      by_cases hk2 : k = 2
      · subst hk2
        go_wp2_with (refine wpList_load_mid rfl 37 (.tmp 63) rfl g (o2 + i * 3) rfl (ra 2 a b).toList _ HR1.out Try.underlying37 rfl size_rec ?_)
        refine (ap_is 2 a b HT.out.1.1 HCB.out).mono ?_
        rintro e w7 ⟨rfl, hk7, ho7⟩
        have HN : Hid (TwoK w K0 K1 J0 J1 o p (some ⟨g, o2, none⟩) l (flsX (newX 8 4) (l.take (i + 1))) (newX 8 4) w7) := by
          rw [HFS.out, flX_app (by decide)]
          exact HT.out.fst ho7 hk7
        clear hk7 ho7 HT HFS ck HR1
        go_wp2_with fail
        go_roundw
        case rel => exact ⟨i + 1, hlt, by go_num, HN⟩
        case measure => simp [intOf]; omega
      have hk : ¬ (k = 1 ∨ k = 2) := by omega
      have b1 : (k == 1) = false := by simp [hk1]
      have b2 : (k == 2) = false := by simp [hk2]
      rw [flX_not hk] at HFS
      have HN : Hid (TwoK w K0 K1 J0 J1 o p (some ⟨g, o2, none⟩) l (flsX (newX 8 4) (l.take (i + 1))) (newX 8 4) wr) := by rw [HFS.out]; exact HT.out
      clear hk hk1 hk2 HFS HT HR1
      go_wp2_with fail
      go_roundw
      case rel => exact ⟨i + 1, hlt, by go_num, HN⟩
      case measure => simp [intOf]; omega
    · obtain rfl : i = L := by omega
      have hltz : ¬ (i : Int) < (i : Int) := by omega
      have HT2 : Hid (TwoK w K0 K1 J0 J1 o p oa l (flsX (newX 8 4) l) (newX 8 4) wr) := by
        have h1 := HT.out
        rw [List.take_of_length_le (by have := HLN.out; omega)] at h1
        exact h1
      have hil2 := HLB.out
      have hw2 : IntKind.i64.wrap (2 * (i : Int)) = 2 * (i : Int) := by rw [IntKind.wrap_i64]; omega
      clear hlt HT hi
      go_wp2_with fail
      go_loopw [70] (fun iv wq => ∃ (n : Nat), n ≤ 2 * i ∧ iv = .int .i64 n ∧ Hid (TwoK w K0 K1 J0 J1 o p oa l (flsX (newX 8 4) l) (flsX (newX 8 4) (rndL l (f % (i : Int)).toNat n)) wq)) (fun iv _ => 2 * i + 1 - (intOf iv).toNat)
      case atStart => exact ⟨0, Nat.zero_le _, rfl, HT2.out⟩
      case round =>
        clear HT2
        obtain ⟨n, hn, rfl, HT⟩ := hrel
        by_cases hlt : n < 2 * i
        · have hltz : (n : Int) < 2 * (i : Int) := by omega
          have n0 : (0 : Int) ≤ (n : Int) := by omega
          have hi0 : 0 < i := by omega
          have hi0z : (0 : Int) < (i : Int) := by omega
          obtain ⟨g, o2, rfl, hg, hrow⟩ := HT.out.2.1.1 (by intro h0; have := HLN.out; rw [h0] at this; simp at this; omega)
          have hm1 := Int.emod_nonneg f (b := (i : Int)) (by omega)
          have hm2 := Int.emod_lt_of_pos f hi0z
          obtain ⟨c, hc⟩ : ∃ c : Nat, f % (i : Int) = c := ⟨(f % (i : Int)).toNat, by omega⟩
          have hcn : (f % (i : Int)).toNat = c := by omega
          have hci : c < i := by omega
          rw [hcn] at HT ⊢
          obtain ⟨j, hj⟩ : ∃ j, (2 * i - 1 - n + c) % i = j := ⟨_, rfl⟩
          have hji : j < i := by rw [← hj]; exact Nat.mod_lt _ hi0
          have hcast : 2 * (i : Int) - 1 - (n : Int) + (c : Int) = ((2 * i - 1 - n + c : Nat) : Int) := by omega
          have hrem : (2 * (i : Int) - 1 - (n : Int) + (c : Int)) % (i : Int) = (j : Int) := by rw [hcast, ← hj, Int.natCast_emod]
          have hrem2 : (2 * (i : Int) - 1 - (n : Int) + (c : Int)).tmod (i : Int) = (j : Int) := by rw [Int.tmod_eq_emod_of_nonneg (by omega), hrem]
          have hjl : j < l.length := by have := HLN.out; omega
          have r1 := hrow j hjl
          have hfs : flsX (newX 8 4) (rndL l c (n + 1)) = flX (flsX (newX 8 4) (rndL l c n)) l[j] := by
            rw [rndL_snoc, fls_snoc, HLN.out, hj, List.getD_eq_getElem?_getD, List.getElem?_eq_getElem hjl]
            rfl
          obtain ⟨⟨k, a, b⟩, hrc⟩ : ∃ r, l[j] = r := ⟨_, rfl⟩
          rw [hrc] at r1 hfs
          have HR1 : Hid (∀ w', Below wr.heap.size wr w' → w'.rangeAt g (o2 + j * 3) (ra k a b).toList) := fun w' hb q v hv => by
            rw [World.cell?_of_block (w := wr) (hb.block g (Nat.lt_of_lt_of_le hg (kp_size HT.out.1.1).1))]
            exact r1 q v hv
          have HCB : Hid (CntB (flsX (newX 8 4) (rndL l c n))) := fls_cnt _ _ _
          have HFS := Lib.hid hfs
          have j0z : (0 : Int) ≤ (j : Int) := by omega
          have jiz : (j : Int) < (i : Int) := by omega
          have hi1000 : (i : Int) ≤ 1000 := by omega
          clear r1 hrow hrc hg hjl hfs hji hj hcast hm1 hm2
          go_wp2_with fail
          refine (book_bel f i _ hi0z hi1000).mono ?_
          rintro e w8 ⟨rfl, rfl⟩
          rw [hc]
          have HZ0 : Hid (Blk (wr.alloc (.cells #[.int .i64 0, .int .i64 0, .int .i64 0] 37)) wr.heap.size (ra 0 0 0) 37) := Blk.new _ _ _
          have hciz : (c : Int) < (i : Int) := by omega
          clear hc hcn hci
          go_upto_region 19 with (first
            | (refine wpList_load_mid rfl 37 (.tmp 88) rfl g (o2 + j * 3) rfl (ra k a b).toList _ (HR1.out _ (Below.refl _ _)) Try.underlying37 rfl size_rec ?_)
            | (refine wpList_store_row rfl 37 (.tmp 11) (.tmp 89) rfl wr.heap.size (ra k a b) rfl rfl 37 (ra 0 0 0) HZ0.out size_rec rfl (ra_one _ _ _) ?_))
          have hb2 : Below wr.heap.size wr ((wr.alloc (.cells #[.int .i64 0, .int .i64 0, .int .i64 0] 37)).setRow wr.heap.size (ra k a b)) := below_put (Nat.le_refl _) _ ((Below.refl _ _).alloc (Nat.le_refl _) _)
          have HT2 := Lib.hid (HT.out.call hb2)
          have HRB2 : Hid (Blk ((wr.alloc (.cells #[.int .i64 0, .int .i64 0, .int .i64 0] 37)).setRow wr.heap.size (ra k a b)) wr.heap.size (ra k a b) 37) := HZ0.out.put _
          obtain ⟨rb, hrbe⟩ : ∃ rb, wr.heap.size = rb := ⟨_, rfl⟩
          generalize (wr.alloc (.cells #[.int .i64 0, .int .i64 0, .int .i64 0] 37)).setRow wr.heap.size (ra k a b) = w2 at HT2 HRB2 ⊢
          rw [hrbe] at HRB2 ⊢
          have ck : w2.cell? ⟨rb, 0, none⟩ = some (.int .i64 k) := HRB2.out.cell 0
          clear hb2 HZ0 HR1 HT hrbe hrem hrem2 j0z jiz hi1000 hciz hw2
          by_cases hk1 : k = 1
          · subst hk1
            go_wp2_with (refine wpList_load_row rfl 37 (.tmp 11) rfl rb rfl 37 (ra 1 a b) (0, 0) _ HRB2.out Try.underlying37 rfl size_rec ?_)
            refine (ap_is 1 a b HT2.out.1.2 HCB.out).mono ?_
            rintro e w7 ⟨rfl, hk7, ho7⟩
            have HN : Hid (TwoK w K0 K1 J0 J1 o p (some ⟨g, o2, none⟩) l (flsX (newX 8 4) l) (flsX (newX 8 4) (rndL l c (n + 1))) w7) := by
              rw [HFS.out, flX_app (by decide)]
              exact HT2.out.snd ho7 hk7
            clear hk7 ho7 HT2 HFS ck
            go_wp2_with fail
            go_roundw
            case rel => exact ⟨n + 1, hlt, by go_num, HN⟩
            case measure => simp [intOf]; omega
          by_cases hk2 : k = 2
          · subst hk2
            go_wp2_with (refine wpList_load_row rfl 37 (.tmp 11) rfl rb rfl 37 (ra 2 a b) (0, 0) _ HRB2.out Try.underlying37 rfl size_rec ?_)
            refine (ap_is 2 a b HT2.out.1.2 HCB.out).mono ?_
            rintro e w7 ⟨rfl, hk7, ho7⟩
            have HN : Hid (TwoK w K0 K1 J0 J1 o p (some ⟨g, o2, none⟩) l (flsX (newX 8 4) l) (flsX (newX 8 4) (rndL l c (n + 1))) w7) := by
              rw [HFS.out, flX_app (by decide)]
              exact HT2.out.snd ho7 hk7
            clear hk7 ho7 HT2 HFS ck
            go_wp2_with fail
            go_roundw
            case rel => exact ⟨n + 1, hlt, by go_num, HN⟩
            case measure => simp [intOf]; omega
          have hk : ¬ (k = 1 ∨ k = 2) := by omega
          have b1 : (k == 1) = false := by simp [hk1]
          have b2 : (k == 2) = false := by simp [hk2]
          rw [flX_not hk] at HFS
          have HN : Hid (TwoK w K0 K1 J0 J1 o p (some ⟨g, o2, none⟩) l (flsX (newX 8 4) l) (flsX (newX 8 4) (rndL l c (n + 1))) w2) := by rw [HFS.out]; exact HT2.out
          clear hk hk1 hk2 HFS HT2
          go_wp2_with fail
          go_roundw
          case rel => exact ⟨n + 1, hlt, by go_num, HN⟩
          case measure => simp [intOf]; omega
        · obtain rfl : n = 2 * i := by omega
          have hltz2 : ¬ ((2 * i : Nat) : Int) < 2 * (i : Int) := by omega
          have hsame : flsX (newX 8 4) l = flsX (newX 8 4) (rndL l (f % (i : Int)).toNat (2 * i)) := by
            rw [← HLN.out]
            exact fls_any l _ _ (rndL_mem l _)
          rw [← hsame] at HT
          clear hlt hn
          go_wp2_with fail
          refine (kp_state HT.out.1.1 (fls_48 l)).mono ?_
          rintro e w7 ⟨⟨g0, g1, g2, g3, k0, k1, k2, k3, rfl, hr7⟩, hb7⟩
          have HT7 := Lib.hid (HT.out.call hb7)
          have HR7 := Lib.hid hr7
          clear hr7 hb7 HT
          go_wp2_with fail
          refine (kp_state HT7.out.1.2 (fls_48 l)).mono ?_
          rintro e w8 ⟨⟨h0, h1, h2, h3, j0, j1, j2, j3, rfl, hr8⟩, hb8⟩
          have HT8 := Lib.hid (HT7.out.call hb8)
          have HS7 := Lib.hid ((HR7.out.call hb8).sn)
          have HS8 := Lib.hid hr8.sn
          clear hr8 hb8 HT7 HR7
          go_wp2_with fail
          refine (book_state _ _ _ _ _ HS7.out HS8.out).mono ?_
          rintro e w9 ⟨rfl, hb9⟩
          have HB9 := Lib.hid (HT8.out.2.1.2.trans (hb9.mono HT8.out.2.1.2.size))
          clear hb9
          go_wp2_with fail
          go_ret
          exact ⟨rfl, HB9.out⟩

end Go.Proofs.Ytgnjknboahcmgaa

/- Layer 14, the laws: the spoiler of numbers. -/
namespace Go.Proofs.Ytgnjknboahcmgaa
set_option maxRecDepth 100000
open Go.RowKit

/-- rows stay rows, whatever they hold -/
def RowsK (w w' : World) : Prop := ∀ h m k l, RowI w h m k l → ∃ l', RowI w' h m k l'
theorem RowsK.refl (w : World) : RowsK w w := fun _ _ _ l h => ⟨l, h⟩
theorem RowsK.set {w w' : World} (h : RowsK w w') (g p : Nat) (v : Int) : RowsK w (w'.setCell ⟨g, p, none⟩ (.int .i64 v)) := fun b m k l hr => by
  obtain ⟨l', hr'⟩ := h b m k l hr
  by_cases e : g = b
  · subst e; exact ⟨_, hr'.set p v⟩
  · exact ⟨_, hr'.set_other e p _⟩
set_option maxHeartbeats 1000000 in
theorem book_spoil (g n k : Nat) (l : List Int) (w : World) (h : RowI w g n k l) (hn : n ≤ 1000000) : Calls Try.prog 14 #[.slice (some ⟨g, 0, none⟩) n k] w fun e w' => e = .returned (.tuple #[]) ∧ Out g (g + 1) w w' ∧ RowsK w w' := by
  have H := Lib.hid h
  clear h
  go_enter Try.func14, Try.ntmps14
  go_wp2_with fail
  go_loopw [5] (fun iv wr => ∃ (i : Nat), i ≤ n ∧ iv = .int .i64 i ∧ Hid (Out g (g + 1) w wr) ∧ Hid (RowsK w wr)) (fun iv _ => n + 1 - (intOf iv).toNat)
  case atStart => exact ⟨0, Nat.zero_le _, rfl, Out.refl _ _ _, RowsK.refl _⟩
  case round =>
    obtain ⟨i, hi, rfl, HO, HR⟩ := hrel
    by_cases hlt : i < n
    · have hltz : (i : Int) < (n : Int) := by omega
      have i0 : (0 : Int) ≤ (i : Int) := by omega
      obtain ⟨l', hr⟩ := HR.out _ _ _ _ H.out
      have c1 := hr.cell i hlt
      have f1 := hr.free i
      clear hr
      go_wp2_with fail
      go_roundw
      case rel => exact ⟨i + 1, hlt, by go_num, HO.out.trans (Out.set _ (Nat.le_refl _) (by omega) _ _), HR.out.set _ _ _⟩
      case measure => simp [intOf]; omega
    · obtain rfl : i = n := by omega
      have hltz : ¬ (i : Int) < (i : Int) := by omega
      clear hlt
      go_wp2_with fail
      exact bodyPost_end (results_none rfl _ _ _) rfl ⟨rfl, HO.out, HR.out⟩

end Go.Proofs.Ytgnjknboahcmgaa

/- Drawn regions in long frames: as XInv6, the slots that differ told by a list. -/
namespace Go.Proofs.Ytgnjknboahcmgaa
open Go.RowKit

/-- a frame that differs from A in these slots alone -/
structure NearL (A : Act) (ds : List Nat) (a : Act) : Prop where
  size : a.tmps.size = A.tmps.size
  defers : a.defers = A.defers
  slot : ∀ j, ds.contains j = false → a.tmps.getD j undef = A.tmps.getD j undef
theorem NearL.refl (A : Act) (ds : List Nat) : NearL A ds A := ⟨rfl, rfl, fun _ _ => rfl⟩
theorem NearL.put {A a : Act} {ds : List Nat} {d : Nat} {v : Value} (h : NearL A ds a) (h1 : ds.contains d = true) : NearL A ds (a.put (some d) v) :=
  ⟨by simp [Act.put, h.size], h.defers, fun j hj => by
    have hne : d ≠ j := fun e => by rw [e, hj] at h1; cases h1
    rw [← h.slot j hj]
    simp [Act.put, Array.getD_eq_getD_getElem?, Array.getElem?_setIfInBounds_ne hne]⟩
theorem fold_set (v : Nat → Value) (j : Nat) : ∀ (ds : List Nat) (t : List Value), (ds.foldl (fun t d => t.set d (v d)) t)[j]? = if j ∈ ds ∧ j < t.length then some (v j) else t[j]?
  | [], t => by rw [if_neg (fun h => by cases h.1)]; rfl
  | d :: ds, t => by
    rw [List.foldl_cons, fold_set v j ds (t.set d (v d)), List.length_set]
    by_cases h3 : j < t.length
    · by_cases h1 : j ∈ ds
      · rw [if_pos ⟨h1, h3⟩, if_pos ⟨List.mem_cons_of_mem _ h1, h3⟩]
      · rw [if_neg (fun h => h1 h.1), List.getElem?_set]
        by_cases h2 : d = j
        · subst h2
          rw [if_pos rfl, if_pos h3, if_pos ⟨List.mem_cons_self, h3⟩]
        · rw [if_neg h2, if_neg (fun h => by rcases List.mem_cons.1 h.1 with e | e; exact h2 e.symm; exact h1 e)]
    · rw [if_neg (fun h => h3 h.2), if_neg (fun h => h3 h.2), List.getElem?_eq_none (by rw [List.length_set]; omega), List.getElem?_eq_none (by omega)]
/-- the frame is A, with what the slots hold laid into it -/
theorem NearL.puts {A a : Act} {ds : List Nat} (h : NearL A ds a) : a = ⟨(ds.foldl (fun t d => t.set d (a.tmps.getD d undef)) A.tmps.toList).toArray, A.defers⟩ := by
  obtain ⟨at', ad⟩ := a
  obtain ⟨⟨Al⟩, Ad⟩ := A
  have hd : ad = Ad := h.defers
  subst hd
  have hsz : at'.size = Al.length := h.size
  show (⟨at', ad⟩ : Act) = ⟨(ds.foldl (fun t d => t.set d (at'.getD d undef)) Al).toArray, ad⟩
  congr 1
  apply Array.ext_getElem?
  intro j
  have e2 : ∀ l : List Value, (l.toArray)[j]? = l[j]? := fun l => by simp
  refine Eq.trans ?_ (e2 _).symm
  rw [fold_set (fun d => at'.getD d undef) j ds Al]
  by_cases h2 : j < Al.length
  · by_cases h1 : j ∈ ds
    · rw [if_pos ⟨h1, h2⟩, Array.getD_eq_getD_getElem?, Array.getElem?_eq_getElem (by omega)]
      rfl
    · rw [if_neg (fun h => h1 h.1)]
      have h3 : at'.getD j undef = (⟨Al⟩ : Array Value).getD j undef := h.slot j (by simpa using h1)
      rw [Array.getD_eq_getD_getElem?, Array.getD_eq_getD_getElem?, Array.getElem?_eq_getElem (by omega), Array.getElem?_eq_getElem (show j < (⟨Al⟩ : Array Value).size from h2)] at h3
      rw [Array.getElem?_eq_getElem (by omega), List.getElem?_eq_getElem h2]
      simpa using h3
  · rw [if_neg (fun h => h2 h.2), Array.getElem?_eq_none (by omega), List.getElem?_eq_none (by omega)]

end Go.Proofs.Ytgnjknboahcmgaa

/- As XInv4, with any number of steps between an operation and the one that comes behind all others. -/
namespace Go.Proofs.Ytgnjknboahcmgaa

section
variable {P : Program} {ops : Array Oper} {Q : Exit → Act → World → Prop} {md : Region.Mode}

/-- operation k comes behind i, by edges that bind -/
inductive Reach (ops : Array Oper) (md : Region.Mode) : Nat → Nat → Prop
  | refl (k : Nat) : Reach ops md k k
  | step (k i : Nat) (o : Oper) (e : Edge) (ho : ops[k]? = some o) (he : e ∈ o.after) (hb : Region.binds md e = true) (hr : Reach ops md e.on i) : Reach ops md k i
theorem Reach.listed {listed : Array Bool} (hcl : ∀ (k : Nat) (o : Oper), ops[k]? = some o → listed.getD k true = true → ∀ e ∈ o.after, Region.binds md e = true → listed.getD e.on true = true) {k i : Nat} (h : Reach ops md k i) : listed.getD k true = true → listed.getD i true = true := by
  induction h with
  | refl => exact fun h => h
  | step k i o e ho he hb _ ih => exact fun hk => ih (hcl k o ho hk e he hb)
/-- the same, reckoned, in at most so many steps -/
def reachB (l : List Oper) : Nat → Nat → Nat → Bool
  | 0, k, i => k == i
  | n + 1, k, i => k == i || match l[k]? with
    | none => false
    | some o => o.after.any fun e => Region.binds .any e && reachB l n e.on i
theorem reachB.reach {l : List Oper} : ∀ (n k i : Nat), reachB l n k i = true → Reach l.toArray .any k i
  | 0, k, i, h => by
    simp only [reachB, beq_iff_eq] at h
    subst h; exact Reach.refl _
  | n + 1, k, i, h => by
    simp only [reachB, Bool.or_eq_true, beq_iff_eq] at h
    rcases h with h | h
    · subst h; exact Reach.refl _
    · cases ho : l[k]? with
      | none => rw [ho] at h; cases h
      | some o =>
        rw [ho] at h
        obtain ⟨j, hj, hb⟩ := Array.any_eq_true.1 h
        simp only [Bool.and_eq_true] at hb
        exact Reach.step k i o o.after[j] (by simpa using ho) (Array.getElem_mem hj) hb.1 (reachB.reach n _ i hb.2)
end
end Go.Proofs.Ytgnjknboahcmgaa
