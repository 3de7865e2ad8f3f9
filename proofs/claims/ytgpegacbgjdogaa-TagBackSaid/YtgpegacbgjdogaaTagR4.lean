/- The reference of layer 4, walked: Decode of a text that has a tag's form. -/
import Derived.Test.YtgpegacbgjdogaaTagR3
import Derived.Test.YtgpegacbgjdogaaReg
namespace Go.Proofs.Ytgpegacbgjdogaa
open Go.RowKit

def ta (k l q e : Int) : Array Value := #[.int .i64 k, .int .i64 l, .int .i64 q, .int .i64 e]
theorem ta_one (k l q e : Int) : (ta k l q e).all (·.oneCell') = true := by
  rw [Array.all_eq_true_iff_forall_mem]
  intro v hv
  simp [ta] at hv
  rcases hv with rfl | rfl | rfl | rfl <;> rfl
theorem size_tag : (Try.prog.info? 23).map (·.size) = some 4 := by kernel_rfl
/-- what each operation of Decode's tag leaves -/
def vsT (s s2 s6 s4 : ByteArray) (b1 : Nat) (x y z : Int) : List (Option (Tmp × Value)) :=
  [some (24, .string s), some (25, .int .u8 b1), some (26, .int .i64 b1), some (27, .string s), some (28, .string s2), some (29, .int .i64 x), some (30, .string s), some (31, .string s6), some (32, .int .i64 y), some (33, .string s), some (34, .string s4), some (35, .int .i64 z), some (36, .agg (ta b1 x y z)), none, none]
def SpT (B : Nat) (f : Array Value) (j : Nat) (a : Act) (w : World) : Prop := ∃ g cs, B < g ∧ a.tmps.getD 4 undef = .pointer (some ⟨g, 0, none⟩) ∧ Blk w g cs 23 ∧ cs.size = 4 ∧ (j = 14 → cs = f)
/-- a block of a tag stays one, and stays f, once it is f -/
def TT (B : Nat) (f : Array Value) (w w' : World) : Prop := Below (B + 1) w w' ∧ ∀ g cs, B < g → Blk w g cs 23 → cs.size = 4 → ∃ cs', Blk w' g cs' 23 ∧ cs'.size = 4 ∧ (cs = f → cs' = f)
theorem TT.of {B : Nat} {f : Array Value} {w w' : World} (hb : Below w.heap.size w w') (hB : B < w.heap.size) : TT B f w w' :=
  ⟨hb.mono hB, fun _ cs _ h hs => ⟨cs, h.after hb, hs, id⟩⟩
theorem TT.store {B g : Nat} {f cs : Array Value} {w : World} (hg : B < g) (h : Blk w g cs 23) (hf : f.size = 4) : TT B f w (w.setRow g f) :=
  ⟨below_put hg f (Below.refl _ _), fun g' cs' _ h' hs' => by
    by_cases e : g = g'
    · subst e; exact ⟨f, h.put f, hf, fun _ => rfl⟩
    · exact ⟨cs', h'.put_other e f, hs', id⟩⟩
theorem SpT.ext {B : Nat} {f : Array Value} : ∀ j a a' w w', SpT B f j a w → (∀ d ∈ [4], a'.tmps.getD d undef = a.tmps.getD d undef) → TT B f w w' → SpT B f j a' w' := by
  rintro j a a' w w' ⟨g, cs, hg, h1, h2, h3, h4⟩ hd hT
  obtain ⟨cs', h5, h6, h7⟩ := hT.2 g cs hg h2 h3
  exact ⟨g, cs', hg, (hd 4 (by simp)).trans h1, h5, h6, fun h => h7 (h4 h)⟩
/-- the frame while the region TR runs -/
def BaseTR (s : ByteArray) (B : Nat) (a : Act) : Prop := ∃ u1 u3 u4 u5 u6 u7 u8 u9 u10 u11 u12 u13 u14 u15 u16 u17 u18 u19 u20 u21 u22 u23 u24 u25 u26 u27 u28 u29 u30 u31 u32 u33 u34 u35 u36 u37 u38 u39 u40 u41 : Value, a = ⟨#[.string s, u1, .pointer (some ⟨B, 0, none⟩), u3, u4, u5, u6, u7, u8, u9, u10, u11, u12, u13, u14, u15, u16, u17, u18, u19, u20, u21, u22, u23, u24, u25, u26, u27, u28, u29, u30, u31, u32, u33, u34, u35, u36, u37, u38, u39, u40, u41], []⟩
theorem baseTR (s : ByteArray) (B : Nat) : ∀ (a : Act) (v : Value), BaseTR s B a → BaseTR s B (a.put (some 24) v) ∧ BaseTR s B (a.put (some 25) v) ∧ BaseTR s B (a.put (some 26) v) ∧ BaseTR s B (a.put (some 27) v) ∧ BaseTR s B (a.put (some 28) v) ∧ BaseTR s B (a.put (some 29) v) ∧ BaseTR s B (a.put (some 30) v) ∧ BaseTR s B (a.put (some 31) v) ∧ BaseTR s B (a.put (some 32) v) ∧ BaseTR s B (a.put (some 33) v) ∧ BaseTR s B (a.put (some 34) v) ∧ BaseTR s B (a.put (some 35) v) ∧ BaseTR s B (a.put (some 36) v) ∧ BaseTR s B (a.put (some 4) v) := by
  rintro a v ⟨u1, u3, u4, u5, u6, u7, u8, u9, u10, u11, u12, u13, u14, u15, u16, u17, u18, u19, u20, u21, u22, u23, u24, u25, u26, u27, u28, u29, u30, u31, u32, u33, u34, u35, u36, u37, u38, u39, u40, u41, rfl⟩
  exact ⟨⟨u1, u3, u4, u5, u6, u7, u8, u9, u10, u11, u12, u13, u14, u15, u16, u17, u18, u19, u20, u21, u22, u23, v, u25, u26, u27, u28, u29, u30, u31, u32, u33, u34, u35, u36, u37, u38, u39, u40, u41, rfl⟩,
    ⟨u1, u3, u4, u5, u6, u7, u8, u9, u10, u11, u12, u13, u14, u15, u16, u17, u18, u19, u20, u21, u22, u23, u24, v, u26, u27, u28, u29, u30, u31, u32, u33, u34, u35, u36, u37, u38, u39, u40, u41, rfl⟩,
    ⟨u1, u3, u4, u5, u6, u7, u8, u9, u10, u11, u12, u13, u14, u15, u16, u17, u18, u19, u20, u21, u22, u23, u24, u25, v, u27, u28, u29, u30, u31, u32, u33, u34, u35, u36, u37, u38, u39, u40, u41, rfl⟩,
    ⟨u1, u3, u4, u5, u6, u7, u8, u9, u10, u11, u12, u13, u14, u15, u16, u17, u18, u19, u20, u21, u22, u23, u24, u25, u26, v, u28, u29, u30, u31, u32, u33, u34, u35, u36, u37, u38, u39, u40, u41, rfl⟩,
    ⟨u1, u3, u4, u5, u6, u7, u8, u9, u10, u11, u12, u13, u14, u15, u16, u17, u18, u19, u20, u21, u22, u23, u24, u25, u26, u27, v, u29, u30, u31, u32, u33, u34, u35, u36, u37, u38, u39, u40, u41, rfl⟩,
    ⟨u1, u3, u4, u5, u6, u7, u8, u9, u10, u11, u12, u13, u14, u15, u16, u17, u18, u19, u20, u21, u22, u23, u24, u25, u26, u27, u28, v, u30, u31, u32, u33, u34, u35, u36, u37, u38, u39, u40, u41, rfl⟩,
    ⟨u1, u3, u4, u5, u6, u7, u8, u9, u10, u11, u12, u13, u14, u15, u16, u17, u18, u19, u20, u21, u22, u23, u24, u25, u26, u27, u28, u29, v, u31, u32, u33, u34, u35, u36, u37, u38, u39, u40, u41, rfl⟩,
    ⟨u1, u3, u4, u5, u6, u7, u8, u9, u10, u11, u12, u13, u14, u15, u16, u17, u18, u19, u20, u21, u22, u23, u24, u25, u26, u27, u28, u29, u30, v, u32, u33, u34, u35, u36, u37, u38, u39, u40, u41, rfl⟩,
    ⟨u1, u3, u4, u5, u6, u7, u8, u9, u10, u11, u12, u13, u14, u15, u16, u17, u18, u19, u20, u21, u22, u23, u24, u25, u26, u27, u28, u29, u30, u31, v, u33, u34, u35, u36, u37, u38, u39, u40, u41, rfl⟩,
    ⟨u1, u3, u4, u5, u6, u7, u8, u9, u10, u11, u12, u13, u14, u15, u16, u17, u18, u19, u20, u21, u22, u23, u24, u25, u26, u27, u28, u29, u30, u31, u32, v, u34, u35, u36, u37, u38, u39, u40, u41, rfl⟩,
    ⟨u1, u3, u4, u5, u6, u7, u8, u9, u10, u11, u12, u13, u14, u15, u16, u17, u18, u19, u20, u21, u22, u23, u24, u25, u26, u27, u28, u29, u30, u31, u32, u33, v, u35, u36, u37, u38, u39, u40, u41, rfl⟩,
    ⟨u1, u3, u4, u5, u6, u7, u8, u9, u10, u11, u12, u13, u14, u15, u16, u17, u18, u19, u20, u21, u22, u23, u24, u25, u26, u27, u28, u29, u30, u31, u32, u33, u34, v, u36, u37, u38, u39, u40, u41, rfl⟩,
    ⟨u1, u3, u4, u5, u6, u7, u8, u9, u10, u11, u12, u13, u14, u15, u16, u17, u18, u19, u20, u21, u22, u23, u24, u25, u26, u27, u28, u29, u30, u31, u32, u33, u34, u35, v, u37, u38, u39, u40, u41, rfl⟩,
    ⟨u1, u3, v, u5, u6, u7, u8, u9, u10, u11, u12, u13, u14, u15, u16, u17, u18, u19, u20, u21, u22, u23, u24, u25, u26, u27, u28, u29, u30, u31, u32, u33, u34, u35, u36, u37, u38, u39, u40, u41, rfl⟩⟩
/-- the world while the region runs: the result's block, and what is below -/
def CT (w0 w : World) : Prop := Blk w w0.heap.size (ta 0 0 0 0) 23 ∧ Below w0.heap.size w0 w

set_option maxHeartbeats 1000000 in
set_option maxRecDepth 100000 in
theorem rtag_dec_yes (s : ByteArray) (w : World) (hf : FormT s) :
    Calls Try.prog 10 #[.string s] w fun r w' => r = .returned (if mayB (byteT s 1) (lT s) (qT s) (eT s) then .tuple #[tagV (byteT s 1) (lT s) (qT s) (eT s), .int .i64 0] else .tuple #[tagV 0 0 0 0, .int .i64 3]) ∧ Below w.heap.size w w' := by
  obtain ⟨h, f0, f14, f15⟩ := hf
  have hs : (s.size : Int) = 16 := by omega
  have g0 := byteT_get s 0 (by omega); have g14 := byteT_get s 14 (by omega); have g15 := byteT_get s 15 (by omega); have g1 := byteT_get s 1 (by omega)
  rw [f0] at g0; rw [f14] at g14; rw [f15] at g15
  have hb0 : s[0].toNat = 27 := by omega
  have hb14 : s[14].toNat = 0 := by omega
  have hb15 : s[15].toNat = 0 := by omega
  obtain ⟨b1, hb1⟩ : ∃ b : Nat, s[1].toNat = b := ⟨_, rfl⟩
  rw [hb1] at g1
  have x2 : (s.extract 2 4).size = 2 := by rw [ByteArray.size_extract]; omega
  have x6 : (s.extract 4 10).size = 6 := by rw [ByteArray.size_extract]; omega
  have x4 : (s.extract 10 14).size = 4 := by rw [ByteArray.size_extract]; omega
  have H2 := Lib.hid x2; have H6 := Lib.hid x6; have H4 := Lib.hid x4
  rw [← g1]
  have hb256 : b1 < 256 := by rw [← hb1]; exact s[1].toNat_lt
  have hw1 : IntKind.i64.wrap (b1 : Int) = (b1 : Int) := by rw [IntKind.wrap_i64]; omega
  obtain ⟨x, hx⟩ : ∃ x, numS (s.extract 2 4) = x := ⟨_, rfl⟩
  obtain ⟨y, hy⟩ : ∃ y, numS (s.extract 4 10) = y := ⟨_, rfl⟩
  obtain ⟨z, hz⟩ : ∃ z, numS (s.extract 10 14) = z := ⟨_, rfl⟩
  rw [show lT s = x from hx, show qT s = y from hy, show eT s = z from hz]
  obtain ⟨m, hm⟩ : ∃ m, mayB (b1 : Int) x y z = m := ⟨_, rfl⟩
  rw [hm]
  have HX := Lib.hid hx; have HY := Lib.hid hy; have HZ := Lib.hid hz; have HM := Lib.hid hm
  clear hx hy hz hm
  clear g0 g14 g15 f0 f14 f15 x2 x6 x4 g1
  go_enter Try.func10, Try.ntmps10
  go_wp2_with fail
  refine wp_region_list2 (SV (vsT s (s.extract 2 4) (s.extract 4 10) (s.extract 10 14) b1 x y z) [4]) (BaseTR s w.heap.size) (CT w) (TT w.heap.size (ta b1 x y z)) (RV (vsT s (s.extract 2 4) (s.extract 4 10) (s.extract 10 14) b1 x y z) (SpT w.heap.size (ta b1 x y z))) rfl (by kernel_rfl) (RV.ext SpT.ext) ?base ?start ⟨_, _, _, _, _, _, _, _, _, _, _, _, _, _, _, _, _, _, _, _, _, _, _, _, _, _, _, _, _, _, _, _, _, _, _, _, _, _, _, _, rfl⟩ ?steps ?fin
  case base => exact ⟨fun a v h => (baseTR s w.heap.size a v h).1, fun a v h => (baseTR s w.heap.size a v h).2.1, fun a v h => (baseTR s w.heap.size a v h).2.2.1, fun a v h => (baseTR s w.heap.size a v h).2.2.2.1, fun a v h => (baseTR s w.heap.size a v h).2.2.2.2.1, fun a v h => (baseTR s w.heap.size a v h).2.2.2.2.2.1, fun a v h => (baseTR s w.heap.size a v h).2.2.2.2.2.2.1, fun a v h => (baseTR s w.heap.size a v h).2.2.2.2.2.2.2.1, fun a v h => (baseTR s w.heap.size a v h).2.2.2.2.2.2.2.2.1, fun a v h => (baseTR s w.heap.size a v h).2.2.2.2.2.2.2.2.2.1, fun a v h => (baseTR s w.heap.size a v h).2.2.2.2.2.2.2.2.2.2.1, fun a v h => (baseTR s w.heap.size a v h).2.2.2.2.2.2.2.2.2.2.2.1, fun a v h => (baseTR s w.heap.size a v h).2.2.2.2.2.2.2.2.2.2.2.2.1, fun a v h => (baseTR s w.heap.size a v h).2.2.2.2.2.2.2.2.2.2.2.2.2, fun a v h => h, trivial⟩
  case start => exact ⟨(Blk.new w (ta 0 0 0 0) 23).drew, ((Below.refl _ _).alloc (Nat.le_refl _) _).drew⟩
  case steps =>
    refine ⟨?_, ?_, ?_, ?_, ?_, ?_, ?_, ?_, ?_, ?_, ?_, ?_, ?_, ?_, ?_, trivial⟩
    all_goals
      refine ⟨rfl, ?_⟩
      intro a w' hC hB hR
      obtain ⟨u1, u3, u4, u5, u6, u7, u8, u9, u10, u11, u12, u13, u14, u15, u16, u17, u18, u19, u20, u21, u22, u23, u24, u25, u26, u27, u28, u29, u30, u31, u32, u33, u34, u35, u36, u37, u38, u39, u40, u41, rfl⟩ := hB
      have hlt : w.heap.size < w'.heap.size := hC.1.lt
      have HC := Lib.hid hC
      clear hC
    · clear hR
      unfold Oper.wp
      go_simp
      exact ⟨HC.out, TT.of (Below.refl _ _) hlt, rfl⟩
    · have h0 : u24 = .string s := hR ⟨0, .data⟩ (by simp) rfl
      clear hR
      subst h0
      unfold Oper.wp
      go_simp
      exact ⟨HC.out, TT.of (Below.refl _ _) hlt, rfl⟩
    · have h1 : u25 = .int .u8 b1 := hR ⟨1, .data⟩ (by simp) rfl
      clear hR
      subst h1
      unfold Oper.wp
      go_simp
      exact ⟨HC.out, TT.of (Below.refl _ _) hlt, rfl⟩
    · clear hR
      unfold Oper.wp
      go_simp
      exact ⟨HC.out, TT.of (Below.refl _ _) hlt, rfl⟩
    · have h3 : u27 = .string s := hR ⟨3, .data⟩ (by simp) rfl
      clear hR
      subst h3
      unfold Oper.wp
      go_simp
      exact ⟨HC.out, TT.of (Below.refl _ _) hlt, rfl⟩
    · have h4 : u28 = .string (s.extract 2 4) := hR ⟨4, .data⟩ (by simp) rfl
      clear hR
      subst h4
      unfold Oper.wp
      go_simp
      refine (rtag_of (s.extract 2 4) _ (by rw [H2.out]; decide) (by rw [H2.out]; decide)).mono ?_
      rintro r w2 ⟨rfl, rfl⟩
      exact ⟨HC.out, TT.of (Below.refl _ _) hlt, congrArg (Value.int .i64) HX.out⟩
    · clear hR
      unfold Oper.wp
      go_simp
      exact ⟨HC.out, TT.of (Below.refl _ _) hlt, rfl⟩
    · have h6 : u30 = .string s := hR ⟨6, .data⟩ (by simp) rfl
      clear hR
      subst h6
      unfold Oper.wp
      go_simp
      exact ⟨HC.out, TT.of (Below.refl _ _) hlt, rfl⟩
    · have h7 : u31 = .string (s.extract 4 10) := hR ⟨7, .data⟩ (by simp) rfl
      clear hR
      subst h7
      unfold Oper.wp
      go_simp
      refine (rtag_of (s.extract 4 10) _ (by rw [H6.out]; decide) (by rw [H6.out]; decide)).mono ?_
      rintro r w2 ⟨rfl, rfl⟩
      exact ⟨HC.out, TT.of (Below.refl _ _) hlt, congrArg (Value.int .i64) HY.out⟩
    · clear hR
      unfold Oper.wp
      go_simp
      exact ⟨HC.out, TT.of (Below.refl _ _) hlt, rfl⟩
    · have h9 : u33 = .string s := hR ⟨9, .data⟩ (by simp) rfl
      clear hR
      subst h9
      unfold Oper.wp
      go_simp
      exact ⟨HC.out, TT.of (Below.refl _ _) hlt, rfl⟩
    · have h10 : u34 = .string (s.extract 10 14) := hR ⟨10, .data⟩ (by simp) rfl
      clear hR
      subst h10
      unfold Oper.wp
      go_simp
      refine (rtag_of (s.extract 10 14) _ (by rw [H4.out]; decide) (by rw [H4.out]; decide)).mono ?_
      rintro r w2 ⟨rfl, rfl⟩
      exact ⟨HC.out, TT.of (Below.refl _ _) hlt, congrArg (Value.int .i64) HZ.out⟩
    · have h2 : u26 = .int .i64 b1 := hR ⟨2, .data⟩ (by simp) rfl
      have h5 : u29 = .int .i64 x := hR ⟨5, .data⟩ (by simp) rfl
      have h8 : u32 = .int .i64 y := hR ⟨8, .data⟩ (by simp) rfl
      have h11 : u35 = .int .i64 z := hR ⟨11, .data⟩ (by simp) rfl
      clear hR
      subst h2
      subst h5
      subst h8
      subst h11
      unfold Oper.wp
      go_simp
      exact ⟨HC.out, TT.of (Below.refl _ _) hlt, rfl⟩
    · clear hR
      unfold Oper.wp
      go_simp
      exact ⟨⟨HC.out.1.alloc _, HC.out.2.alloc (by omega) _⟩, TT.of ((Below.refl _ _).alloc (Nat.le_refl _) _) hlt, ⟨_, _, hlt, rfl, Blk.new _ _ _, rfl, fun h => by cases h⟩⟩
    · have h12 : u36 = .agg (ta b1 x y z) := hR ⟨12, .data⟩ (by simp) rfl
      obtain ⟨g, cs, hg, hp, hb, hcs, _⟩ := hR ⟨13, .data⟩ (by simp) rfl
      clear hR
      subst h12
      obtain rfl : u4 = .pointer (some ⟨g, 0, none⟩) := hp
      exact wp_store_row 23 (.tmp 4) (.tmp 36) rfl g (ta b1 x y z) rfl rfl 23 cs hb size_tag hcs (ta_one _ _ _ _) ⟨undef, rfl, ⟨HC.out.1.put_other (by omega) _, below_put (by omega) _ HC.out.2⟩, TT.store hg hb rfl, ⟨g, _, hg, rfl, hb.put _, rfl, fun _ => rfl⟩⟩
  case fin =>
    intro a w' hC hB hR
    obtain ⟨g, cs, hg, hp, hb, hcs, he⟩ := hR 14 (by decide)
    clear hR
    obtain rfl := he rfl
    obtain ⟨u1, u3, u4, u5, u6, u7, u8, u9, u10, u11, u12, u13, u14, u15, u16, u17, u18, u19, u20, u21, u22, u23, u24, u25, u26, u27, u28, u29, u30, u31, u32, u33, u34, u35, u36, u37, u38, u39, u40, u41, rfl⟩ := hB
    obtain rfl : u4 = .pointer (some ⟨g, 0, none⟩) := hp
    have HC := Lib.hid hC
    have HB := Lib.hid hb
    clear hC hb hcs he H2 H6 H4 HX HY HZ
    go_wp2_with (refine wpList_load_row rfl 23 (.tmp 4) rfl g rfl 23 (ta b1 x y z) (0, 0) _ HB.out Try.underlying23 rfl size_tag ?_)
    refine (rtag_may_any _ _ _ _ _).mono ?_
    rintro r w5 ⟨rfl, hb5⟩
    rw [HM.out]
    have HR5 := Lib.hid (HC.out.1.after hb5)
    have HB5 := Lib.hid (HB.out.after hb5)
    have HL5 := Lib.hid (HC.out.2.trans (hb5.mono (by have := HC.out.2.size; exact this)))
    clear hb5 HM
    cases m
    · go_wp2_with (refine wpList_store_row rfl 23 (.tmp 2) (.tmp 40) rfl w.heap.size (ta 0 0 0 0) rfl rfl 23 (ta 0 0 0 0) HR5.out size_tag rfl (ta_one _ _ _ _) ?_)
      exact bodyPost_ret (results_cell_tmp rfl _ _ w.heap.size 23 (ta 0 0 0 0) _ rfl (HR5.out.put _) Try.underlying23 rfl size_tag) rfl ⟨rfl, below_put (Nat.le_refl _) _ HL5.out⟩
    · go_wp2_with (first
        | (refine wpList_load_row rfl 23 (.tmp 4) rfl g rfl 23 (ta b1 x y z) (0, 0) _ HB5.out Try.underlying23 rfl size_tag ?_)
        | (refine wpList_store_row rfl 23 (.tmp 2) (.tmp 41) rfl w.heap.size (ta b1 x y z) rfl rfl 23 (ta 0 0 0 0) HR5.out size_tag rfl (ta_one _ _ _ _) ?_))
      exact bodyPost_ret (results_cell_tmp rfl _ _ w.heap.size 23 (ta b1 x y z) _ rfl (HR5.out.put _) Try.underlying23 rfl size_tag) rfl ⟨rfl, below_put (Nat.le_refl _) _ HL5.out⟩

end Go.Proofs.Ytgpegacbgjdogaa
