/- Texts of one claim, merged: SnCC, SnL1, SnL2. -/
import Derived.Test.YtidakannaephoaaDoorS8
import Derived.Test.YtidakannaephoaaDoorS11
import Derived.Test.YtidakannaephoaaDoorS9

/- Package snap, walked: Take. What Put and Take answer, as plain functions. -/
namespace Go.Proofs.YtidakannaephoaaDoor
set_option maxRecDepth 100000
open Go.RowKit

instance (ps : List ByteArray) (M N K Y : Nat) : Decidable (PagesOk ps M N K Y) :=
  decidable_of_iff (ps.length = K ∧ (∀ p ∈ ps, p.size = Y) ∧ ∀ i : Nat, i < K * Y → 6 * N + 10 * M ≤ i → byteT (catP ps) i = 0) ⟨fun ⟨h1, h2, h3⟩ => ⟨h1, h2, fun i a b => h3 i b a⟩, fun ⟨h1, h2, h3⟩ => ⟨h1, h2, fun i a b => h3 i b a⟩⟩
/-- are these pages of this geometry? -/
def PgOk (b n y : Int) (ps : List ByteArray) : Prop := PagesOk ps b.toNat n.toNat (snapsG b y n).toNat y.toNat
instance (b n y : Int) (ps : List ByteArray) : Decidable (PgOk b n y ps) := by unfold PgOk; infer_instance
def noneN : Sn := ⟨[], [], [], []⟩
def tkE (b l y n s r : Int) (ps : List ByteArray) : Int := if OkG b l y n s r then (if PgOk b n y ps then 0 else 130) else 60
def tkX (b l y n s r : Int) (ps : List ByteArray) : Sn := if OkG b l y n s r ∧ PgOk b n y ps then ofText (catP ps) b.toNat n.toNat else noneN
def ptE (b l y n s r : Int) (x : Sn) : Int := if OkG b l y n s r then (if FitS b n x then 0 else 130) else 60
def ptP (b l y n s r : Int) (x : Sn) : List ByteArray := if OkG b l y n s r ∧ FitS b n x then pgsN x (snapsG b y n).toNat y.toNat else []

/-- a slice of texts, wherever it lies, its capacity known -/
def TsC (w : World) (v : Value) (l : List ByteArray) : Prop := ∃ (oa : Option Addr) (cap : Nat), v = .slice oa l.length cap ∧ (l.length ≤ cap ∧ cap ≤ maxLen) ∧ ∀ k (hk : k < l.length), ∃ g o, oa = some ⟨g, o, none⟩ ∧ w.cell? ⟨g, o + k, none⟩ = some (.string l[k])
theorem TsC.ts {w : World} {v : Value} {l : List ByteArray} (h : TsC w v l) : TsAt w v l := by
  obtain ⟨oa, cap, h1, _, h2⟩ := h
  exact ⟨oa, cap, h1, h2⟩
theorem TsC.below {w w' : World} {v : Value} {l : List ByteArray} (h : TsC w v l) (hb : Below w.heap.size w w') : TsC w' v l := by
  obtain ⟨a, cap, hv, hc, hk⟩ := h
  refine ⟨a, cap, hv, hc, fun k h => ?_⟩
  obtain ⟨g, o, ha, h1⟩ := hk k h
  exact ⟨g, o, ha, (hb.cell (p := ⟨g, o + k, none⟩) (cell_lt h1)).trans h1⟩
theorem TsC.own {w : World} {B n : Nat} {v : Value} {l : List ByteArray} (hn : n = l.length) (h : w.ownsRow B 9 1 v n (strV l)) : TsC w v l := by
  subst hn
  have h0 := h
  rcases h.2 with ⟨hv, hz⟩ | ⟨g, cap, cur, hv, _, _, h1, h2, _⟩
  · exact ⟨none, 0, by rw [hv, hz], ⟨by omega, Nat.zero_le _⟩, fun k hk => absurd hk (by omega)⟩
  · exact ⟨_, cap, hv, ⟨h1, h2⟩, fun k hk => ⟨g, 0, rfl, by rw [Nat.zero_add]; exact cell_of_rowX h0 hv k _ (by unfold strV; simp [hk])⟩⟩
/-- the reader, made -/
theorem reader_new (w : World) (v : Value) (ps : List ByteArray) (Y : Nat) (h : TsC w v ps) : RdS (w.alloc (.cells #[v, .int .i64 Y, .string ⟨#[]⟩] 50)) w.heap.size (w.heap.size + 1) ps Y ByteArray.empty := by
  obtain ⟨oa, cap, rfl, hc, hk⟩ := h
  refine ⟨oa, cap, ⟨Blk.new _ _ _, hc⟩, fun j hj => ?_⟩
  obtain ⟨g, o, ha, h1⟩ := hk j hj
  have hlt : g < w.heap.size := cell_lt h1
  refine ⟨g, o, ha, by omega, by omega, ?_⟩
  exact (((Below.refl w.heap.size w).alloc (Nat.le_refl _) _).cell (p := ⟨g, o + j, none⟩) hlt).trans h1

/-- what Take answers -/
def TakeC (b l y n s r : Int) (ps : List ByteArray) (w : World) (e : Ending) (w' : World) : Prop :=
  (∃ va vb vc vd, e = .returned (.tuple #[.agg #[va, vb, vc, vd], .int .i64 (tkE b l y n s r ps)]) ∧ FourR w' w.heap.size [va, vb, vc, vd] (listsN (tkX b l y n s r ps))) ∧ Below w.heap.size w w'
set_option maxHeartbeats 4000000 in
theorem sn_take (w : World) (b l y n s r : Int) (v : Value) (ps : List ByteArray) (hv : TsC w v ps) :
    Calls Tryd.prog 9 #[.agg (gv b l y n s r), v] w (TakeC b l y n s r ps w) := by
  obtain ⟨w2, hw2⟩ : ∃ w2, (w.alloc (.cells (gv b l y n s r) 23)).alloc (.cells nil4 26) = w2 := ⟨_, rfl⟩
  have hsw : SnW w b l y n s r nil4 w2 := by rw [← hw2]; exact SnW.new _ _ _ _ _ _ _ _
  have HS := Lib.hid hv
  have HSW := Lib.hid hsw
  have HW2 := Lib.hid hw2
  clear hv hsw hw2
  rcases chk_eq0 b l y n s r with ⟨hck, hok⟩ | ⟨hck, hok⟩
  · have HK := Lib.hid hck
    have HOK := Lib.hid hok
    obtain ⟨N, hN⟩ : ∃ N : Nat, n = N := ⟨n.toNat, by have h := hok.1; unfold PreG at h; omega⟩
    obtain ⟨M, hM⟩ : ∃ M : Nat, b = M := ⟨b.toNat, by have h := hok.1; unfold PreG at h; omega⟩
    obtain ⟨Y, hY⟩ : ∃ Y : Nat, y = Y := ⟨y.toNat, by have h := hok.1; unfold PreG at h; omega⟩
    obtain ⟨l', hl'⟩ : ∃ l' : Nat, l = l' := ⟨l.toNat, by have h := hok.1; unfold PreG at h; omega⟩
    have hbd : N ≤ 4096 ∧ M ≤ 64 ∧ 16 ≤ Y ∧ Y ≤ 256 := by have h := hok.1; unfold PreG at h; omega
    obtain ⟨oa, cap, hve, hcap, hk⟩ := HS.out
    obtain ⟨L, hL⟩ : ∃ L, ps.length = L := ⟨_, rfl⟩
    have RDC : Hid (∀ w3, Below w.heap.size w w3 → Calls Tryd.prog 24 #[.agg (gv b l y n s r), .pointer (some ⟨w3.heap.size, 0, none⟩)] (w3.alloc (.cells #[.slice oa L cap, .int .i64 y, .string ⟨#[]⟩] 50)) fun e w' =>
        (PgOk b n y ps → ∃ va vb vc vd, e = .returned (.tuple #[.agg #[va, vb, vc, vd], .int .i64 0]) ∧ FourR w' (w3.alloc (.cells #[.slice oa L cap, .int .i64 y, .string ⟨#[]⟩] 50)).heap.size [va, vb, vc, vd] (listsN (ofText (catP ps) b.toNat n.toNat)))
        ∧ (¬ PgOk b n y ps → e = .returned (.tuple #[.agg nil4, .int .i64 130])) ∧ Turns w3.heap.size (w3.alloc (.cells #[.slice oa L cap, .int .i64 y, .string ⟨#[]⟩] 50)) w') := fun w3 hb => by
      have htc : TsC w3 (.slice oa L cap) ps := by
        rw [← hL, ← hve]
        exact ⟨oa, cap, hve, hcap, fun k hkk => by
          obtain ⟨g, o, ha, h1⟩ := hk k hkk
          exact ⟨g, o, ha, (hb.cell (p := ⟨g, o + k, none⟩) (cell_lt h1)).trans h1⟩⟩
      subst hN hM hY hl'
      have hks := snaps_nat M N Y (by omega)
      have hkm := snaps_mul (T := 6 * N + 10 * M) (Y := Y) (by omega)
      have hkt : (snapsG (M : Int) (Y : Int) (N : Int)).toNat = (6 * N + 10 * M + (Y - 1)) / Y := by rw [hks]; exact Int.toNat_natCast _
      unfold PgOk
      rw [hkt]
      refine (sn_read (w3.alloc (.cells #[.slice oa L cap, .int .i64 Y, .string ⟨#[]⟩] 50)) M N Y ((6 * N + 10 * M + (Y - 1)) / Y) l' s r w3.heap.size ps hbd.1 hbd.2.1 hbd.2.2.1 hbd.2.2.2 hkm.1 hkm.2 (by simp) ?_).mono ?_
      · have h := reader_new w3 _ ps Y htc
        rw [World.size_alloc]
        exact h
      · rintro e w' ⟨h1, h2, h3⟩
        exact ⟨h1, h2, h3⟩
    rw [hve, hL]
    clear hck hok hN hM hY hl' hbd hcap hk hL hve HS
    go_enter Tryd.func9, Tryd.ntmps9
    go_wp2_with (first
      | (change wpList _ _ _ _ _ ((w.alloc (.cells (gv b l y n s r) 23)).alloc (.cells nil4 26)); rw [HW2.out]; refine wpList_load_row rfl 23 (.tmp 2) rfl w.heap.size rfl 23 (gv b l y n s r) (0, 0) _ HSW.out.1.2.1 Tryd.underlying23 rfl size_geo ?_))
    refine (ge_check b l y n s r w2).mono ?_
    rintro e w3 ⟨rfl, hb3⟩
    rw [HK.out]
    have HS3 : Hid (SnW w b l y n s r nil4 w3) := HSW.out.call hb3
    clear hb3 HW2 HSW HK
    have g2 := HS3.out.geo.2.1
    go_wp2_with (first
      | (refine wpList_load_row rfl 23 (.tmp 2) rfl w.heap.size rfl 23 (gv b l y n s r) (0, 0) _ HS3.out.1.2.1 Tryd.underlying23 rfl size_geo ?_))
    have HB3 : Hid (Below w.heap.size w w3 ∧ w.heap.size + 2 ≤ w3.heap.size) := ⟨HS3.out.2, HS3.out.1.1⟩
    refine (RDC.out w3 HB3.out.1).mono ?_
    rintro e w5 ⟨h1, h2, h3⟩
    have HS5 : Hid (Blk w5 (w.heap.size + 1) nil4 26) := blk_turns (HS3.out.1.2.2.alloc _) h3 (by have := HB3.out.2; omega)
    have HB5 : Hid (Below w.heap.size w w5) := by
      have h4 : Below w.heap.size w (w3.alloc (.cells #[.slice oa L cap, .int .i64 y, .string ⟨#[]⟩] 50)) := HB3.out.1.alloc HB3.out.1.size _
      refine ⟨h3.os.trans h4.os, h3.tape.trans h4.tape, h3.output.trans h4.output, Nat.le_trans h4.size h3.size, fun k hk => ?_⟩
      exact (h3.block k (Nat.lt_of_lt_of_le hk h4.size) (fun e => by cases e; have := HB3.out.2; omega)).trans (h4.block k hk)
    clear h3 RDC HS3 g2
    by_cases hp : PgOk b n y ps
    · obtain ⟨va, vb, vc, vd, rfl, hf⟩ := h1 hp
      have HF : Hid (FourR w5 (w.heap.size + 2) [va, vb, vc, vd] (listsN (ofText (catP ps) b.toNat n.toNat))) := hf.mono (by have := HB3.out.2; rw [World.size_alloc]; omega)
      have hE : tkE b l y n s r ps = 0 := by unfold tkE; rw [if_pos HOK.out, if_pos hp]
      have hX : tkX b l y n s r ps = ofText (catP ps) b.toNat n.toNat := if_pos ⟨HOK.out, hp⟩
      have HEX := Lib.hid hE
      have HXX := Lib.hid hX
      clear h1 h2 hf hp hE hX
      go_wp2_with (first
        | (refine wpList_store_row rfl 26 (.tmp 4) (.tmp 20) rfl (w.heap.size + 1) #[va, vb, vc, vd] rfl rfl 26 nil4 HS5.out size_state rfl HF.out.one ?_))
      refine bodyPost_ret (results_cell_tmp rfl _ _ (w.heap.size + 1) 26 #[va, vb, vc, vd] _ rfl (HS5.out.put _) Tryd.underlying26 rfl size_state) rfl ?_
      refine ⟨⟨va, vb, vc, vd, ?_, ?_⟩, below_put (by omega) _ HB5.out⟩
      · rw [HEX.out]; rfl
      · rw [HXX.out]; exact (HF.out.setRow (by omega) _).mono (by omega)
    · obtain rfl := h2 hp
      have hE : tkE b l y n s r ps = 130 := by unfold tkE; rw [if_pos HOK.out, if_neg hp]
      have hX : tkX b l y n s r ps = noneN := if_neg fun h => hp h.2
      have HEX := Lib.hid hE
      have HXX := Lib.hid hX
      clear h1 h2 hp hE hX
      go_wp2_with (first
        | (refine wpList_store_row rfl 26 (.tmp 4) (.tmp 20) rfl (w.heap.size + 1) nil4 rfl rfl 26 nil4 HS5.out size_state rfl nil4_one ?_))
      refine bodyPost_ret (results_cell_tmp rfl _ _ (w.heap.size + 1) 26 nil4 _ rfl (HS5.out.put _) Tryd.underlying26 rfl size_state) rfl ?_
      refine ⟨⟨.slice none 0 0, .slice none 0 0, .slice none 0 0, .slice none 0 0, ?_, ?_⟩, below_put (by omega) _ HB5.out⟩
      · rw [HEX.out]; rfl
      · rw [HXX.out]; exact fourR_nil _ _
  · have HK := Lib.hid hck
    have HNO := Lib.hid hok
    clear hck hok
    go_enter Tryd.func9, Tryd.ntmps9
    go_wp2_with (first
      | (change wpList _ _ _ _ _ ((w.alloc (.cells (gv b l y n s r) 23)).alloc (.cells nil4 26)); rw [HW2.out]; refine wpList_load_row rfl 23 (.tmp 2) rfl w.heap.size rfl 23 (gv b l y n s r) (0, 0) _ HSW.out.1.2.1 Tryd.underlying23 rfl size_geo ?_))
    refine (ge_check b l y n s r w2).mono ?_
    rintro e w3 ⟨rfl, hb3⟩
    rw [HK.out]
    have HS9 : Hid (SnW w b l y n s r nil4 w3) := HSW.out.call hb3
    clear hb3
    go_wp2_with (first
      | (refine wpList_store_row rfl 26 (.tmp 4) (.tmp 11) rfl (w.heap.size + 1) nil4 rfl rfl 26 nil4 HS9.out.1.2.2 size_state rfl nil4_one ?_))
    refine bodyPost_ret (results_cell_tmp rfl _ _ (w.heap.size + 1) 26 nil4 _ rfl (HS9.out.1.2.2.put _) Tryd.underlying26 rfl size_state) rfl ?_
    have hE : tkE b l y n s r ps = 60 := if_neg HNO.out
    have hX : tkX b l y n s r ps = noneN := if_neg fun h => HNO.out h.1
    refine ⟨⟨.slice none 0 0, .slice none 0 0, .slice none 0 0, .slice none 0 0, ?_, ?_⟩, below_row HS9.out _⟩
    · rw [hE]; rfl
    · rw [hX]; exact fourR_nil _ _

end Go.Proofs.YtidakannaephoaaDoor

/- The laws of layer 13: the chapter's example. -/
namespace Go.Proofs.YtidakannaephoaaDoor
set_option maxRecDepth 100000
open Go.RowKit

def intC (l : List Int) : Array Value := (intV l).toArray
theorem make8 (w : World) : Sem.run Tryd.prog (Instr.makeSlice 24 (.int .i64 8) (.int .i64 8)) w = .ok (.slice (some ⟨w.heap.size, 0, none⟩) 8 8) (w.alloc (.cells (intC (List.replicate 8 0)) 3)) := by
  obtain ⟨i0, hi, hz0, hz1, hz2⟩ := info_partsX infoInt
  have h := run_make (P := Tryd.prog) w 24 3 i0 _ Tryd.underlying24 hi hz0 .i64 .i64 8 8 (by omega) (Int.le_refl _) (by rw [hz2]; decide) (by omega)
  rw [hz1] at h
  have e : madeCells #[.int .i64 0] (8 * 1) = intC (List.replicate 8 0) := by kernel_rfl
  rw [← e]
  exact h
theorem iv_blk {w : World} {g n : Nat} {l : List Int} {t : TypeId} (h : Blk w g (intC l) t) (hn : l.length = n) (hz : n ≤ 1000) : IvAt w (.slice (some ⟨g, 0, none⟩) n n) l := by
  subst hn
  refine ⟨_, _, rfl, ⟨Nat.le_refl _, by unfold maxLen; omega⟩, fun _ => ⟨g, 0, rfl, h.lt, fun i hi => ?_⟩⟩
  rw [Nat.zero_add, h.cell]
  unfold intC intV
  rw [List.getElem?_toArray, List.getElem?_map, List.getElem?_eq_getElem hi]
  rfl

def wkA (g0 g1 g2 g3 : Nat) : Array Value := #[.slice (some ⟨g0, 0, none⟩) 4 4, .slice (some ⟨g1, 0, none⟩) 8 8, .slice (some ⟨g2, 0, none⟩) 8 8, .slice (some ⟨g3, 0, none⟩) 8 8]
theorem wkA_one (g0 g1 g2 g3 : Nat) : (wkA g0 g1 g2 g3).all (·.oneCell') = true := by unfold wkA; simp [Value.oneCell']
def wkX : Sn := ⟨[1, 2, 3, 4], List.replicate 8 0, List.replicate 8 0, List.replicate 8 0⟩
/-- the four blocks -/
def WkB (g0 g1 g2 g3 : Nat) (w : World) : Prop := Blk w g0 (intC [1, 2, 3, 4]) 3 ∧ Blk w g1 (intC (List.replicate 8 0)) 3 ∧ Blk w g2 (intC (List.replicate 8 0)) 3 ∧ Blk w g3 (intC (List.replicate 8 0)) 3
theorem WkB.sn {g0 g1 g2 g3 : Nat} {w : World} (h : WkB g0 g1 g2 g3 w) : SnAt w (wkA g0 g1 g2 g3) wkX :=
  ⟨_, _, _, _, rfl, iv_blk h.1 rfl (by decide), iv_blk h.2.1 rfl (by decide), iv_blk h.2.2.1 rfl (by decide), iv_blk h.2.2.2 rfl (by decide)⟩
/-- block b holds what is durable of them -/
def WkP (w0 : World) (b : Nat) (w : World) : Prop := w0.heap.size ≤ b ∧ Below w0.heap.size w0 w ∧ ∃ g0 g1 g2 g3, Blk w b (wkA g0 g1 g2 g3) 26 ∧ WkB g0 g1 g2 g3 w
/-- as the world goes on -/
def TW (w0 w w' : World) : Prop :=
  (∀ g cs t, t ≠ 26 → Blk w g cs t → Blk w' g cs t) ∧ (∀ g cs, cs.size = 4 → Blk w g cs 26 → ∃ cs' : Array Value, cs'.size = 4 ∧ Blk w' g cs' 26) ∧ ∀ b, WkP w0 b w → WkP w0 b w'
theorem TW.refl (w0 w : World) : TW w0 w w := ⟨fun _ _ _ _ h => h, fun _ cs hs h => ⟨cs, hs, h⟩, fun _ h => h⟩
theorem TW.alloc {w0 w : World} (_ : Below w0.heap.size w0 w) (o : Obj) : TW w0 w (w.alloc o) :=
  ⟨fun _ _ _ _ h => h.alloc o, fun _ cs hs h => ⟨cs, hs, h.alloc o⟩, fun _ ⟨h1, h2, g0, g1, g2, g3, h3, h4, h5, h6, h7⟩ => ⟨h1, h2.alloc h2.size o, g0, g1, g2, g3, h3.alloc o, h4.alloc o, h5.alloc o, h6.alloc o, h7.alloc o⟩⟩
theorem blk_ne {w : World} {g b : Nat} {cs ds : Array Value} {t t' : TypeId} (h : Blk w g cs t) (h' : Blk w b ds t') (hne : t ≠ t') : b ≠ g := fun e => by
  subst e
  unfold Blk at h h'
  rw [h] at h'
  cases h'
  exact hne rfl
theorem WkB.put {g0 g1 g2 g3 b : Nat} {w : World} {cs : Array Value} (h : WkB g0 g1 g2 g3 w) (hb : Blk w b cs 26) (ds : Array Value) : WkB g0 g1 g2 g3 (w.setRow b ds) :=
  ⟨h.1.put_other (blk_ne h.1 hb (by decide)) ds, h.2.1.put_other (blk_ne h.2.1 hb (by decide)) ds, h.2.2.1.put_other (blk_ne h.2.2.1 hb (by decide)) ds, h.2.2.2.put_other (blk_ne h.2.2.2 hb (by decide)) ds⟩
theorem WkP.mk {w0 w : World} {b g0 g1 g2 g3 : Nat} {cs : Array Value} (hb : w0.heap.size ≤ b) (hbk : Blk w b cs 26) (hk : WkB g0 g1 g2 g3 w) (hC : Below w0.heap.size w0 w) : WkP w0 b (w.setRow b (wkA g0 g1 g2 g3)) :=
  ⟨hb, below_put hb _ hC, g0, g1, g2, g3, hbk.put _, hk.put hbk _⟩
theorem TW.store {w0 w : World} {b g0 g1 g2 g3 : Nat} {cs : Array Value} (hC : Below w0.heap.size w0 w) (hb : w0.heap.size ≤ b) (hbk : Blk w b cs 26) (hk : WkB g0 g1 g2 g3 w) : TW w0 w (w.setRow b (wkA g0 g1 g2 g3)) := by
  refine ⟨fun g ds t ht h => h.put_other (blk_ne h hbk ht) _, fun g ds hs h => ?_, fun c ⟨h1, h2, k0, k1, k2, k3, h3, h4⟩ => ?_⟩
  · by_cases e : b = g
    · subst e; exact ⟨_, rfl, h.put _⟩
    · exact ⟨ds, hs, h.put_other e _⟩
  · by_cases e : b = c
    · subst e; exact WkP.mk hb hbk hk hC
    · exact ⟨h1, below_put hb _ h2, k0, k1, k2, k3, h3.put_other e _, h4.put hbk _⟩
/-- what each operation leaves -/
def SpWK (w0 : World) (j : Nat) (a : Act) (w : World) : Prop := match j with
  | 0 => ∃ g, a.tmps.getD 10 undef = .slice (some ⟨g, 0, none⟩) 4 4 ∧ Blk w g (intC [1, 2, 3, 4]) 3
  | 1 => ∃ g, a.tmps.getD 11 undef = .slice (some ⟨g, 0, none⟩) 8 8 ∧ Blk w g (intC (List.replicate 8 0)) 3
  | 2 => ∃ g, a.tmps.getD 12 undef = .slice (some ⟨g, 0, none⟩) 8 8 ∧ Blk w g (intC (List.replicate 8 0)) 3
  | 3 => ∃ g, a.tmps.getD 13 undef = .slice (some ⟨g, 0, none⟩) 8 8 ∧ Blk w g (intC (List.replicate 8 0)) 3
  | 4 => ∃ g0 g1 g2 g3, a.tmps.getD 14 undef = .agg (wkA g0 g1 g2 g3) ∧ WkB g0 g1 g2 g3 w
  | 5 => ∃ b cs, a.tmps.getD 2 undef = .pointer (some ⟨b, 0, none⟩) ∧ w0.heap.size ≤ b ∧ Blk w b cs 26 ∧ cs.size = 4
  | _ => ∃ b, a.tmps.getD 2 undef = .pointer (some ⟨b, 0, none⟩) ∧ WkP w0 b w
theorem SpWK.ext (w0 : World) : ∀ (j : Nat) (a a' : Act) (w w' : World), SpWK w0 j a w → (∀ d ∈ (if j = 0 then [10] else if j = 1 then [11] else if j = 2 then [12] else if j = 3 then [13] else if j = 4 then [14] else [2]), a'.tmps.getD d undef = a.tmps.getD d undef) → TW w0 w w' → SpWK w0 j a' w' := by
  intro j a a' w w' h hd hT
  match j, h, hd with
  | 0, ⟨g, h1, h2⟩, hd => exact ⟨g, (hd 10 (by simp)).trans h1, hT.1 _ _ _ (by decide) h2⟩
  | 1, ⟨g, h1, h2⟩, hd => exact ⟨g, (hd 11 (by simp)).trans h1, hT.1 _ _ _ (by decide) h2⟩
  | 2, ⟨g, h1, h2⟩, hd => exact ⟨g, (hd 12 (by simp)).trans h1, hT.1 _ _ _ (by decide) h2⟩
  | 3, ⟨g, h1, h2⟩, hd => exact ⟨g, (hd 13 (by simp)).trans h1, hT.1 _ _ _ (by decide) h2⟩
  | 4, ⟨g0, g1, g2, g3, h1, h2, h3, h4, h5⟩, hd => exact ⟨g0, g1, g2, g3, (hd 14 (by simp)).trans h1, hT.1 _ _ _ (by decide) h2, hT.1 _ _ _ (by decide) h3, hT.1 _ _ _ (by decide) h4, hT.1 _ _ _ (by decide) h5⟩
  | 5, ⟨b, cs, h1, h2, h3, h4⟩, hd =>
    obtain ⟨cs', h5, h6⟩ := hT.2.1 b cs h4 h3
    exact ⟨b, cs', (hd 2 (by simp)).trans h1, h2, h6, h5⟩
  | n + 6, ⟨b, h1, h2⟩, hd => exact ⟨b, (hd 2 (by simp)).trans h1, hT.2.2 _ h2⟩

/-- what each operation of the region WK leaves -/
def vsWK  : List (Option (Tmp × Value)) :=
  [none, none, none, none, none, none, none]
/-- the frame while the region WK runs -/
def BaseWK (B : Nat) (a : Act) : Prop := ∃ u : Nat → Value, a = ⟨#[.bool false, .pointer (some ⟨B, 0, none⟩), u 2, u 3, u 4, u 5, u 6, u 7, u 8, u 9, u 10, u 11, u 12, u 13, u 14, u 15, u 16, u 17, u 18, u 19, u 20, u 21, u 22, u 23, u 24, u 25, u 26, u 27, u 28, u 29, u 30, u 31, u 32, u 33, u 34, u 35, u 36, u 37, u 38, u 39, u 40, u 41, u 42, u 43, u 44, u 45, u 46, u 47, u 48, u 49, u 50, u 51, u 52, u 53, u 54, u 55, u 56, u 57, u 58, u 59, u 60, u 61, u 62, u 63], []⟩
theorem BaseWK.of {B : Nat} (arr : Array Value) (h : arr = #[.bool false, .pointer (some ⟨B, 0, none⟩), arr.getD 2 undef, arr.getD 3 undef, arr.getD 4 undef, arr.getD 5 undef, arr.getD 6 undef, arr.getD 7 undef, arr.getD 8 undef, arr.getD 9 undef, arr.getD 10 undef, arr.getD 11 undef, arr.getD 12 undef, arr.getD 13 undef, arr.getD 14 undef, arr.getD 15 undef, arr.getD 16 undef, arr.getD 17 undef, arr.getD 18 undef, arr.getD 19 undef, arr.getD 20 undef, arr.getD 21 undef, arr.getD 22 undef, arr.getD 23 undef, arr.getD 24 undef, arr.getD 25 undef, arr.getD 26 undef, arr.getD 27 undef, arr.getD 28 undef, arr.getD 29 undef, arr.getD 30 undef, arr.getD 31 undef, arr.getD 32 undef, arr.getD 33 undef, arr.getD 34 undef, arr.getD 35 undef, arr.getD 36 undef, arr.getD 37 undef, arr.getD 38 undef, arr.getD 39 undef, arr.getD 40 undef, arr.getD 41 undef, arr.getD 42 undef, arr.getD 43 undef, arr.getD 44 undef, arr.getD 45 undef, arr.getD 46 undef, arr.getD 47 undef, arr.getD 48 undef, arr.getD 49 undef, arr.getD 50 undef, arr.getD 51 undef, arr.getD 52 undef, arr.getD 53 undef, arr.getD 54 undef, arr.getD 55 undef, arr.getD 56 undef, arr.getD 57 undef, arr.getD 58 undef, arr.getD 59 undef, arr.getD 60 undef, arr.getD 61 undef, arr.getD 62 undef, arr.getD 63 undef]) : BaseWK B ⟨arr, []⟩ := ⟨fun i => arr.getD i undef, by rw [← h]⟩
theorem BaseWK.put10 {B : Nat} (a : Act) (v : Value) (h : BaseWK B a) : BaseWK B (a.put (some 10) v) := by
  obtain ⟨u, rfl⟩ := h
  exact ⟨fun i => if i = 10 then v else u i, by kernel_rfl⟩
theorem BaseWK.put11 {B : Nat} (a : Act) (v : Value) (h : BaseWK B a) : BaseWK B (a.put (some 11) v) := by
  obtain ⟨u, rfl⟩ := h
  exact ⟨fun i => if i = 11 then v else u i, by kernel_rfl⟩
theorem BaseWK.put12 {B : Nat} (a : Act) (v : Value) (h : BaseWK B a) : BaseWK B (a.put (some 12) v) := by
  obtain ⟨u, rfl⟩ := h
  exact ⟨fun i => if i = 12 then v else u i, by kernel_rfl⟩
theorem BaseWK.put13 {B : Nat} (a : Act) (v : Value) (h : BaseWK B a) : BaseWK B (a.put (some 13) v) := by
  obtain ⟨u, rfl⟩ := h
  exact ⟨fun i => if i = 13 then v else u i, by kernel_rfl⟩
theorem BaseWK.put14 {B : Nat} (a : Act) (v : Value) (h : BaseWK B a) : BaseWK B (a.put (some 14) v) := by
  obtain ⟨u, rfl⟩ := h
  exact ⟨fun i => if i = 14 then v else u i, by kernel_rfl⟩
theorem BaseWK.put2 {B : Nat} (a : Act) (v : Value) (h : BaseWK B a) : BaseWK B (a.put (some 2) v) := by
  obtain ⟨u, rfl⟩ := h
  exact ⟨fun i => if i = 2 then v else u i, by kernel_rfl⟩

theorem wk_ok : OkG 8 6 64 4 0 4 := by decide
theorem wk_fit : FitS (8 : Nat) (4 : Nat) wkX := by decide
def wkP0 : ByteArray := pageN wkX 2 64 0
def wkP1 : ByteArray := pageN wkX 2 64 1
theorem wk_pages : pgsN wkX 2 64 = [wkP0, wkP1] := rfl
theorem wk_size : wkP0.size = 64 := by decide +kernel
theorem wk_six (h : 6 < wkP0.size) : wkP0[6].toNat = 2 := by
  have e := byteT_get9 wkP0 6 h
  have e2 : byteT wkP0 6 = 2 := by decide +kernel
  rw [e2] at e
  omega
theorem wk_back : PgOk 8 4 64 [wkP0, wkP1] ∧ ofText (catP [wkP0, wkP1]) 8 4 = wkX := by
  have h := pages_ok wkX 8 4 2 64 wk_fit (by decide)
  rw [wk_pages] at h
  exact h
theorem wk_none : ¬ PgOk 8 4 64 [] := fun h => by have h1 := h.1; revert h1; decide

set_option maxHeartbeats 4000000 in
theorem sn_works (w : World) : Calls Tryd.prog 6 #[] w fun e w' => e = .returned (.bool true) ∧ Below w.heap.size w w' := by
  obtain ⟨wr, hwr⟩ : ∃ wr, w.alloc (.cells #[.int .i64 8, .int .i64 6, .int .i64 64, .int .i64 4, .int .i64 0, .int .i64 4] 23) = wr := ⟨_, rfl⟩
  have HG : Hid (Blk wr w.heap.size (gv 8 6 64 4 0 4) 23) := by rw [← hwr]; exact Blk.new _ _ _
  have HB : Hid (Below w.heap.size w wr) := by rw [← hwr]; exact (Below.refl _ _).alloc (Nat.le_refl _) _
  have HSZ : Hid (wr.heap.size = w.heap.size + 1) := by show wr.heap.size = _; rw [← hwr, World.size_alloc]
  go_enter Tryd.func6, Tryd.ntmps6
  go_upto_region 2 with fail
  clear hwr
  rename_i K0 hK0
  refine wp_region_list4 6 (SV2S vsWK (fun j => if j = 0 then [10] else if j = 1 then [11] else if j = 2 then [12] else if j = 3 then [13] else if j = 4 then [14] else [2])) (BaseWK w.heap.size) (Below wr.heap.size wr) (TW wr) (RV (vsWK ) (SpWK wr)) rfl (by decide) (by kernel_rfl) (by kernel_rfl) (RV.ext2S (f := fun j => if j = 0 then [10] else if j = 1 then [11] else if j = 2 then [12] else if j = 3 then [13] else if j = 4 then [14] else [2]) (SpWK.ext wr)) ?_ ((Below.refl _ _).drew) (BaseWK.of _ (by kernel_rfl)) ?_ ?_
  · exact ⟨BaseWK.put10, BaseWK.put11, BaseWK.put12, BaseWK.put13, BaseWK.put14, BaseWK.put2, fun a v h => h, trivial⟩
  · refine ⟨?_, ?_, ?_, ?_, ?_, ?_, ?_, trivial⟩
    all_goals
      intro a w' hC hB hR
      obtain ⟨u, rfl⟩ := hB
      have HC := Lib.hid hC
      clear hC
      clear hK0
    · clear hR
      refine if_yes (by kernel_rfl) ?_
      unfold Oper.wp
      go_simp
      exact ⟨.slice (some ⟨w'.heap.size, 0, none⟩) 4 4, rfl, HC.out.alloc HC.out.size _, TW.alloc HC.out _, ⟨w'.heap.size, rfl, Blk.new w' #[.int .i64 1, .int .i64 2, .int .i64 3, .int .i64 4] 3⟩⟩
    · clear hR
      refine if_yes (by kernel_rfl) ?_
      have hmk := make8 w'
      unfold Oper.wp
      go_simp
      exact ⟨.slice (some ⟨w'.heap.size, 0, none⟩) 8 8, rfl, HC.out.alloc HC.out.size _, TW.alloc HC.out _, ⟨w'.heap.size, rfl, Blk.new w' (intC (List.replicate 8 0)) 3⟩⟩
    · clear hR
      refine if_yes (by kernel_rfl) ?_
      have hmk := make8 w'
      unfold Oper.wp
      go_simp
      exact ⟨.slice (some ⟨w'.heap.size, 0, none⟩) 8 8, rfl, HC.out.alloc HC.out.size _, TW.alloc HC.out _, ⟨w'.heap.size, rfl, Blk.new w' (intC (List.replicate 8 0)) 3⟩⟩
    · clear hR
      refine if_yes (by kernel_rfl) ?_
      have hmk := make8 w'
      unfold Oper.wp
      go_simp
      exact ⟨.slice (some ⟨w'.heap.size, 0, none⟩) 8 8, rfl, HC.out.alloc HC.out.size _, TW.alloc HC.out _, ⟨w'.heap.size, rfl, Blk.new w' (intC (List.replicate 8 0)) 3⟩⟩
    · obtain ⟨g0, h0, k0⟩ := hR ⟨0, .data⟩ (by simp) rfl
      obtain ⟨g1, h1, k1⟩ := hR ⟨1, .data⟩ (by simp) rfl
      obtain ⟨g2, h2, k2⟩ := hR ⟨2, .data⟩ (by simp) rfl
      obtain ⟨g3, h3, k3⟩ := hR ⟨3, .data⟩ (by simp) rfl
      have h0 : u 10 = .slice (some ⟨g0, 0, none⟩) 4 4 := h0
      have h1 : u 11 = .slice (some ⟨g1, 0, none⟩) 8 8 := h1
      have h2 : u 12 = .slice (some ⟨g2, 0, none⟩) 8 8 := h2
      have h3 : u 13 = .slice (some ⟨g3, 0, none⟩) 8 8 := h3
      clear hR
      refine if_yes (by kernel_rfl) ?_
      simp only [h0, h1, h2, h3]
      unfold Oper.wp
      go_simp
      exact ⟨.agg (wkA g0 g1 g2 g3), rfl, HC.out, TW.refl _ _, ⟨g0, g1, g2, g3, rfl, k0, k1, k2, k3⟩⟩
    · clear hR
      refine if_yes (by kernel_rfl) ?_
      unfold Oper.wp
      go_simp
      exact ⟨.pointer (some ⟨w'.heap.size, 0, none⟩), rfl, HC.out.alloc HC.out.size _, TW.alloc HC.out _, ⟨w'.heap.size, nil4, rfl, HC.out.size, Blk.new w' nil4 26, rfl⟩⟩
    · obtain ⟨g0, g1, g2, g3, h14, hk⟩ := hR ⟨4, .data⟩ (by simp) rfl
      obtain ⟨b, cs, h2, hb, hbk, hcs⟩ := hR ⟨5, .data⟩ (by simp) rfl
      have h14 : u 14 = .agg (wkA g0 g1 g2 g3) := h14
      have h2 : u 2 = .pointer (some ⟨b, 0, none⟩) := h2
      clear hR
      refine if_yes (by kernel_rfl) ?_
      simp only [h14, h2]
      exact wp_store_row 26 (.tmp 2) (.tmp 14) rfl b (wkA g0 g1 g2 g3) rfl rfl 26 cs hbk size_state hcs (wkA_one _ _ _ _) ⟨undef, rfl, fun h => absurd rfl h, TW.store HC.out hb hbk hk, ⟨b, rfl, WkP.mk hb hbk hk HC.out⟩⟩
  · intro a w2 hB hR
    obtain ⟨b, h2, hwk⟩ := hR 6 (by decide)
    clear hR
    obtain ⟨u, rfl⟩ := hB
    have h2 : u 2 = .pointer (some ⟨b, 0, none⟩) := h2
    simp only [h2]
    clear h2
    obtain ⟨hb, hbl, g0, g1, g2, g3, hbk, hkk⟩ := hwk
    have HG2 : Hid (Blk w2 w.heap.size (gv 8 6 64 4 0 4) 23) := HG.out.below hbl (by rw [HSZ.out]; omega)
    have HK2 := Lib.hid hbk
    have HN2 := Lib.hid hkk.sn
    have HB2 : Hid (Below w.heap.size w w2 ∧ w.heap.size ≤ w2.heap.size) := by
      have h := HB.out.trans (hbl.mono HB.out.size)
      exact ⟨h, h.size⟩
    clear hb hbl hbk hkk HG HB HSZ
    go_wp2_with (first
      | (refine wpList_load_row rfl 23 (.tmp 1) rfl w.heap.size rfl 23 (gv 8 6 64 4 0 4) (0, 0) _ HG2.out Tryd.underlying23 rfl size_geo ?_)
      | (refine wpList_load_row rfl 26 (.tmp 2) rfl b rfl 26 (wkA g0 g1 g2 g3) (0, 0) _ HK2.out Tryd.underlying26 rfl size_state ?_))
    refine (sn_put w2 8 6 64 4 0 4 _ wkX HN2.out).mono ?_
    rintro e w3 ⟨_, _, h3, hb3⟩
    obtain ⟨v, rfl, hown⟩ := h3 wk_ok wk_fit
    clear h3
    have HOWN : Hid (w3.ownsRow w2.heap.size 9 1 v 2 (strV [wkP0, wkP1])) := hown
    have HTS : Hid (TsC w3 v [wkP0, wkP1]) := TsC.own rfl HOWN.out
    obtain ⟨oa, cap, hve, _, hcl⟩ := HTS.out
    obtain ⟨g, o, rfl, c0⟩ := hcl 0 (by decide)
    have hve : v = .slice (some ⟨g, o, none⟩) 2 cap := hve
    subst hve
    have c0 : w3.cell? ⟨g, o, none⟩ = some (.string wkP0) := c0
    have hs0 := wk_size
    have HB3 : Hid (Below w.heap.size w w3) := HB2.out.1.trans (hb3.mono HB2.out.2)
    have HG3 : Hid (Blk w3 w.heap.size (gv 8 6 64 4 0 4) 23) := HG2.out.after hb3
    have HK3 := Lib.hid (HK2.out.after hb3)
    have HN3 := Lib.hid (HN2.out.below hb3)
    have HC3 := Lib.hid c0
    have H6 := Lib.hid (fun h => wk_six h)
    obtain ⟨p0, hp0⟩ : ∃ p, wkP0 = p := ⟨_, rfl⟩
    have HP0 := Lib.hid hp0
    rw [hp0] at c0 hs0
    clear hown hcl hb3 HG2 HK2 HN2 HB2 hp0 H6
    go_wp2_with (first
      | (refine wpList_load_row rfl 23 (.tmp 1) rfl w.heap.size rfl 23 (gv 8 6 64 4 0 4) (0, 0) _ HG3.out Tryd.underlying23 rfl size_geo ?_))
    have htk := sn_take w3 8 6 64 4 0 4 _ _ HTS.out
    refine htk.mono ?_
    rintro e w4 ⟨⟨va, vb, vc, vd, rfl, hf4⟩, hb4⟩
    have hE : tkE 8 6 64 4 0 4 [wkP0, wkP1] = 0 := by unfold tkE; rw [if_pos wk_ok, if_pos wk_back.1]
    have hX : tkX 8 6 64 4 0 4 [wkP0, wkP1] = wkX := (if_pos ⟨wk_ok, wk_back.1⟩).trans wk_back.2
    rw [hE]
    rw [hX] at hf4
    have HN4 : Hid (SnAt w4 #[va, vb, vc, vd] wkX) := hf4.snat
    have HF4 := Lib.hid hf4
    have HB4 : Hid (Below w.heap.size w w4) := HB3.out.trans (hb4.mono HB3.out.size)
    have HG4 : Hid (Blk w4 w.heap.size (gv 8 6 64 4 0 4) 23) := HG3.out.after hb4
    have HK4 := Lib.hid (HK3.out.after hb4)
    have HM4 := Lib.hid (HN3.out.below hb4)
    have HC4 : Hid (w4.cell? ⟨g, o, none⟩ = some (.string wkP0)) := (hb4.cell (p := ⟨g, o, none⟩) (cell_lt HC3.out)).trans HC3.out
    clear htk hE hX hf4 hb4 HB3 HG3 HK3 HN3 HC3 c0
    go_upto_region 7 with (first
      | (refine wpList_store_row rfl 26 (.tmp 5) (.tmp 39) rfl w4.heap.size #[va, vb, vc, vd] rfl rfl 26 nil4 (Blk.new w4 nil4 26) size_state rfl HF4.out.one ?_))
    have HS5 : Hid (Blk ((w4.alloc (.cells #[.slice none 0 0, .slice none 0 0, .slice none 0 0, .slice none 0 0] 26)).setRow w4.heap.size #[va, vb, vc, vd]) w4.heap.size #[va, vb, vc, vd] 26) := (Blk.new w4 nil4 26).put _
    have HG5 : Hid (Blk ((w4.alloc (.cells #[.slice none 0 0, .slice none 0 0, .slice none 0 0, .slice none 0 0] 26)).setRow w4.heap.size #[va, vb, vc, vd]) w.heap.size (gv 8 6 64 4 0 4) 23) := (HG4.out.alloc _).put_other (by have := HG4.out.lt; omega) _
    have HBL : Hid (Below w4.heap.size w4 ((w4.alloc (.cells #[.slice none 0 0, .slice none 0 0, .slice none 0 0, .slice none 0 0] 26)).setRow w4.heap.size #[va, vb, vc, vd])) := below_put (Nat.le_refl _) _ ((Below.refl _ _).alloc (Nat.le_refl _) _)
    obtain ⟨s5, hs5⟩ : ∃ s5, w4.heap.size = s5 := ⟨_, rfl⟩
    generalize (w4.alloc (.cells #[.slice none 0 0, .slice none 0 0, .slice none 0 0, .slice none 0 0] 26)).setRow w4.heap.size #[va, vb, vc, vd] = w5 at HS5 HG5 HBL ⊢
    rw [hs5] at HS5 ⊢
    have HK5 := Lib.hid (HK4.out.after HBL.out)
    have HM5 := Lib.hid (HM4.out.below HBL.out)
    have HN5 := Lib.hid (HN4.out.below HBL.out)
    have HC5 : Hid (w5.cell? ⟨g, o, none⟩ = some (.string wkP0)) := (HBL.out.cell (p := ⟨g, o, none⟩) (cell_lt HC4.out)).trans HC4.out
    have HB5 : Hid (Below w.heap.size w w5) := HB4.out.trans (HBL.out.mono HB4.out.size)
    clear hs5 HBL HG4 HK4 HM4 HN4 HC4 HB4 HF4
    go_wp2_with (first
      | (refine wpList_load_row rfl 23 (.tmp 1) rfl w.heap.size rfl 23 (gv 8 6 64 4 0 4) (0, 0) _ HG5.out Tryd.underlying23 rfl size_geo ?_))
    refine (sn_take w5 8 6 64 4 0 4 (.slice none 0 0) [] ⟨none, 0, rfl, ⟨Nat.le_refl _, Nat.zero_le _⟩, fun k hk => absurd hk (Nat.not_lt_zero _)⟩).mono ?_
    rintro e w6 ⟨⟨ya, yb, yc, yd, rfl, hf6⟩, hb6⟩
    have hE : tkE 8 6 64 4 0 4 [] = 130 := by unfold tkE; rw [if_pos wk_ok, if_neg wk_none]
    rw [hE]
    have HF6 := Lib.hid hf6
    have HS6 := Lib.hid (HS5.out.after hb6)
    have HK6 := Lib.hid (HK5.out.after hb6)
    have HM6 := Lib.hid (HM5.out.below hb6)
    have HN6 := Lib.hid (HN5.out.below hb6)
    have HC6 : Hid (w6.cell? ⟨g, o, none⟩ = some (.string wkP0)) := (hb6.cell (p := ⟨g, o, none⟩) (cell_lt HC5.out)).trans HC5.out
    have HB6 : Hid (Below w.heap.size w w6) := HB5.out.trans (hb6.mono HB5.out.size)
    clear hE hf6 hb6 HG5 HS5 HK5 HM5 HN5 HC5 HB5
    go_upto_region 8 with (first
      | (refine wpList_store_row rfl 26 (.tmp 7) (.tmp 44) rfl w6.heap.size #[ya, yb, yc, yd] rfl rfl 26 nil4 (Blk.new w6 nil4 26) size_state rfl HF6.out.one ?_))
    have HBL : Hid (Below w6.heap.size w6 ((w6.alloc (.cells #[.slice none 0 0, .slice none 0 0, .slice none 0 0, .slice none 0 0] 26)).setRow w6.heap.size #[ya, yb, yc, yd])) := below_put (Nat.le_refl _) _ ((Below.refl _ _).alloc (Nat.le_refl _) _)
    generalize (w6.alloc (.cells #[.slice none 0 0, .slice none 0 0, .slice none 0 0, .slice none 0 0] 26)).setRow w6.heap.size #[ya, yb, yc, yd] = w7 at HBL ⊢
    have HS7 := Lib.hid (HS6.out.after HBL.out)
    have HK7 := Lib.hid (HK6.out.after HBL.out)
    have HM7 := Lib.hid (HM6.out.below HBL.out)
    have HN7 := Lib.hid (HN6.out.below HBL.out)
    have HC7 : Hid (w7.cell? ⟨g, o, none⟩ = some (.string wkP0)) := (HBL.out.cell (p := ⟨g, o, none⟩) (cell_lt HC6.out)).trans HC6.out
    have HB7 : Hid (Below w.heap.size w w7) := HB6.out.trans (HBL.out.mono HB6.out.size)
    clear HBL HS6 HK6 HM6 HN6 HC6 HB6 HF6
    go_wp2_with (first
      | (refine wpList_load_row_if (by kernel_rfl) 26 (.tmp 5) rfl s5 rfl 26 #[va, vb, vc, vd] (0, 0) _ HS7.out Tryd.underlying26 rfl size_state ?_)
      | (refine wpList_load_row_if (by kernel_rfl) 26 (.tmp 2) rfl b rfl 26 (wkA g0 g1 g2 g3) (0, 0) _ HK7.out Tryd.underlying26 rfl size_state ?_))
    refine (book_state w7 _ _ wkX wkX HN7.out HM7.out).mono ?_
    rintro e w8 ⟨rfl, hb8⟩
    have hdec : decide (wkX = wkX) = true := decide_eq_true rfl
    rw [hdec]
    have c8 : w8.cell? ⟨g, o, none⟩ = some (.string wkP0) := (hb8.cell (p := ⟨g, o, none⟩) (cell_lt HC7.out)).trans HC7.out
    have HB8 : Hid (Below w.heap.size w w8) := HB7.out.trans (hb8.mono HB7.out.size)
    have hs8 : 6 < wkP0.size := by rw [wk_size]; decide
    have h68 := wk_six hs8
    have hz8 := wk_size
    have hp0 := HP0.out
    clear hb8 hdec HS7 HK7 HM7 HN7 HC7 HB7 HOWN HTS HP0
    subst hp0
    generalize wkP0 = p0 at c8 hs8 h68 hz8 ⊢
    go_wp2_with fail
    go_ret
    exact ⟨rfl, HB8.out⟩

end Go.Proofs.YtidakannaephoaaDoor

/- The laws of layer 13: what Put and Take answer, as plain functions; what a law holds. -/
namespace Go.Proofs.YtidakannaephoaaDoor
set_option maxRecDepth 100000
open Go.RowKit

/-- what Put answers -/
def PutC (b l y n s r : Int) (x : Sn) (w : World) (e : Ending) (w' : World) : Prop :=
  (∃ v, e = .returned (.tuple #[v, .int .i64 (ptE b l y n s r x)]) ∧ w'.ownsRow w.heap.size 9 1 v (ptP b l y n s r x).length (strV (ptP b l y n s r x))) ∧ Below w.heap.size w w'
theorem putS_c {b l y n s r : Int} {x : Sn} {w w' : World} {e : Ending} (h : PutS b l y n s r x w e w') : PutC b l y n s r x w e w' := by
  obtain ⟨h1, h2, h3, h4⟩ := h
  refine ⟨?_, h4⟩
  unfold ptE ptP
  by_cases ho : OkG b l y n s r
  · by_cases hf : FitS b n x
    · obtain ⟨v, rfl, hv⟩ := h3 ho hf
      rw [if_pos ho, if_pos hf, if_pos ⟨ho, hf⟩, pgsN_len]
      exact ⟨v, rfl, hv⟩
    · obtain rfl := h2 ho hf
      rw [if_pos ho, if_neg hf, if_neg (fun h => hf h.2)]
      exact ⟨_, rfl, rfl, .inl ⟨rfl, rfl⟩⟩
  · obtain rfl := h1 ho
    rw [if_neg ho, if_neg (fun h => ho h.1)]
    exact ⟨_, rfl, rfl, .inl ⟨rfl, rfl⟩⟩
theorem sn_putC (w : World) (b l y n s r : Int) (A : Array Value) (x : Sn) (hA : SnAt w A x) : Calls Tryd.prog 7 #[.agg (gv b l y n s r), .agg A] w (PutC b l y n s r x w) :=
  (sn_put w b l y n s r A x hA).mono fun _ _ h => putS_c h
theorem ptE_fits (b l y n s r : Int) (x : Sn) : (fitsB b l y n s r x = true ∧ ptE b l y n s r x = 0) ∨ (fitsB b l y n s r x = false ∧ (ptE b l y n s r x == 0) = false ∧ (ptE b l y n s r x != 0) = true ∧ ptP b l y n s r x = []) := by
  unfold ptE ptP
  by_cases ho : OkG b l y n s r
  · by_cases hf : FitS b n x
    · exact Or.inl ⟨decide_eq_true ⟨ho, hf⟩, by rw [if_pos ho, if_pos hf]⟩
    · exact Or.inr ⟨decide_eq_false fun h => hf h.2, by rw [if_pos ho, if_neg hf]; decide, by rw [if_pos ho, if_neg hf]; decide, if_neg fun h => hf h.2⟩
  · exact Or.inr ⟨decide_eq_false fun h => ho h.1, by rw [if_neg ho]; decide, by rw [if_neg ho]; decide, if_neg fun h => ho h.1⟩
theorem fits_split {b l y n s r : Int} {x : Sn} (h : fitsB b l y n s r x = true) : OkG b l y n s r ∧ FitS b n x := of_decide_eq_true h
theorem ptP_len {b l y n s r : Int} (x : Sn) : (ptP b l y n s r x).length ≤ 1000000 := by
  unfold ptP
  split
  · rename_i h
    rw [pgsN_len]
    have h1 := h.1.2.2
    have h2 := h.1.1
    unfold PreG at h2
    omega
  · exact Nat.zero_le _
/-- the numbers of a geometry that may be -/
theorem geo_nat {b l y n s r : Int} (h : OkG b l y n s r) : ∃ M N Y K : Nat, b = M ∧ n = N ∧ y = Y ∧ snapsG b y n = K ∧ 6 * N + 10 * M ≤ K * Y := by
  have h1 := h.1
  unfold PreG at h1
  refine ⟨b.toNat, n.toNat, y.toNat, (6 * n.toNat + 10 * b.toNat + (y.toNat - 1)) / y.toNat, by omega, by omega, by omega, ?_, (snaps_mul (by omega)).1⟩
  have h2 := snaps_nat b.toNat n.toNat y.toNat (by omega)
  rw [show ((b.toNat : Nat) : Int) = b by omega, show ((n.toNat : Nat) : Int) = n by omega, show ((y.toNat : Nat) : Int) = y by omega] at h2
  exact h2
/-- what fits is taken off its pages -/
theorem back_ok {b l y n s r : Int} {x : Sn} (h : fitsB b l y n s r x = true) : tkE b l y n s r (ptP b l y n s r x) = 0 ∧ tkX b l y n s r (ptP b l y n s r x) = x := by
  obtain ⟨ho, hf⟩ := fits_split h
  obtain ⟨M, N, Y, K, hb, hn, hy, hk, hK⟩ := geo_nat ho
  have hp : ptP b l y n s r x = pgsN x K Y := by
    unfold ptP
    rw [if_pos ⟨ho, hf⟩, hk, hy]; rfl
  rw [hb, hn] at hf
  obtain ⟨h1, h2⟩ := pages_ok x M N K Y hf hK
  have h3 : PgOk b n y (pgsN x K Y) := by
    unfold PgOk
    rw [hk, hb, hn, hy]
    exact h1
  rw [hp]
  unfold tkE tkX
  rw [if_pos ho, if_pos h3, if_pos ⟨ho, h3⟩, hb, hn]
  exact ⟨rfl, h2⟩
theorem tk_cases (b l y n s r : Int) (ps : List ByteArray) : (tkE b l y n s r ps = 0 ∧ fitsB b l y n s r (tkX b l y n s r ps) = true ∧ ptP b l y n s r (tkX b l y n s r ps) = ps) ∨ ((tkE b l y n s r ps != 0) = true ∧ tkX b l y n s r ps = noneN) := by
  by_cases ho : OkG b l y n s r
  · by_cases hp : PgOk b n y ps
    · refine Or.inl ?_
      obtain ⟨M, N, Y, K, hb, hn, hy, hk, hK⟩ := geo_nat ho
      have hx : tkX b l y n s r ps = ofText (catP ps) M N := by unfold tkX; rw [if_pos ⟨ho, hp⟩, hb, hn]; rfl
      have h3 : PagesOk ps M N K Y := by
        have h4 := hp
        unfold PgOk at h4
        rw [hk, hb, hn, hy] at h4
        exact h4
      obtain ⟨h1, h2⟩ := pages_back ps M N K Y h3 hK
      have hf : FitS b n (ofText (catP ps) M N) := by rw [hb, hn]; exact h1
      rw [hx]
      refine ⟨by unfold tkE; rw [if_pos ho, if_pos hp], decide_eq_true ⟨ho, hf⟩, ?_⟩
      unfold ptP
      rw [if_pos ⟨ho, hf⟩, hk, hy]
      exact h2
    · refine Or.inr ⟨by unfold tkE; rw [if_pos ho, if_neg hp]; decide, if_neg fun h => hp h.2⟩
  · refine Or.inr ⟨by unfold tkE; rw [if_neg ho]; decide, if_neg fun h => ho h.1⟩
/-- one for one -/
theorem same_dec {b l y n s r : Int} {x z : Sn} (h : fitsB b l y n s r x = true) (h' : fitsB b l y n s r z = true) : decide (ptP b l y n s r x = ptP b l y n s r z) = decide (x = z) := by
  rw [Bool.eq_iff_iff, decide_eq_true_iff, decide_eq_true_iff]
  constructor
  · intro he
    rw [← (back_ok h).2, he, (back_ok h').2]
  · intro he
    rw [he]

end Go.Proofs.YtidakannaephoaaDoor
