/- The library's stable sort at faults, walked: what the walks ask of the program; exchanges of two ranges; a rotation. -/
import Derived.Test.YtbpkaegkcknemaaFaP
import Derived.Test.YtbpkaegkcknemaaShelf
import Derived.Sort.WalkB2
import Derived.Sort.WalkB12
import Derived.Deep.LoopGhost
namespace Go.Proofs.Ytbpkaegkcknemaa
set_option maxRecDepth 100000
open Go.Shelf Go.RowKit Go.Lib Go.Sort Go.Proofs

/-- a fault's cells -/
def encF (x : Fa) : List Value := [.int .i64 x.1, .int .i64 x.2.1, .int .i64 x.2.2.1, .int .i64 x.2.2.2]
theorem encF_len (x : Fa) : (encF x).length = 4 := rfl
theorem encF_one (x : Fa) : ∀ v ∈ encF x, v.oneCell' = true := by
  intro v hv
  simp [encF] at hv
  rcases hv with rfl | rfl | rfl | rfl <;> rfl

/-- what the walks ask of the program: its types, its functions; a fault's size under a name -/
structure Prg (P : Program) (k : Nat) : Prop where
  mixed : P.follows .mixedOrders = true
  t0 : P.underlying 0 = some (TypeDesc.tuple #[])
  a0 : ∀ w, Sem.run P (isAgg 0) w = .ok false w
  z0 : ∀ w, Sem.run P (Go.sizeOf 0) w = .ok 1 w
  v0 : ∀ w, Sem.run P (zeroValue 0) w = .ok (Value.tuple #[]) w
  t3 : P.underlying 3 = some (TypeDesc.int IntKind.i64)
  a3 : ∀ w, Sem.run P (isAgg 3) w = .ok false w
  z3 : ∀ w, Sem.run P (Go.sizeOf 3) w = .ok 1 w
  v3 : ∀ w, Sem.run P (zeroValue 3) w = .ok (Value.int .i64 0) w
  t4 : P.underlying 4 = some TypeDesc.bool
  a4 : ∀ w, Sem.run P (isAgg 4) w = .ok false w
  z4 : ∀ w, Sem.run P (Go.sizeOf 4) w = .ok 1 w
  v4 : ∀ w, Sem.run P (zeroValue 4) w = .ok (Value.bool false) w
  t22 : P.underlying 22 = some (TypeDesc.slice 26)
  a22 : ∀ w, Sem.run P (isAgg 22) w = .ok false w
  z22 : ∀ w, Sem.run P (Go.sizeOf 22) w = .ok 1 w
  v22 : ∀ w, Sem.run P (zeroValue 22) w = .ok (Value.slice none 0 0) w
  t48 : P.underlying 48 = some (TypeDesc.func #[26, 26] #[3] false)
  a48 : ∀ w, Sem.run P (isAgg 48) w = .ok false w
  z48 : ∀ w, Sem.run P (Go.sizeOf 48) w = .ok 1 w
  v48 : ∀ w, Sem.run P (zeroValue 48) w = .ok Value.nilFunc w
  t58 : P.underlying 58 = some (TypeDesc.int IntKind.u64)
  a58 : ∀ w, Sem.run P (isAgg 58) w = .ok false w
  z58 : ∀ w, Sem.run P (Go.sizeOf 58) w = .ok 1 w
  v58 : ∀ w, Sem.run P (zeroValue 58) w = .ok (Value.int .u64 0) w
  aF : ∀ w, Sem.run P (isAgg 26) w = .ok true w
  zF : ∀ w, Sem.run P (Go.sizeOf 26) w = .ok k w
  fSw : P.funcs[41]? = some Try.f41
  fRo : P.funcs[40]? = some Try.f40
  fSy : P.funcs[39]? = some Try.f39

theorem prgA : Prg Try.prog 4 where
  mixed := by kernel_rfl
  t0 := Try.underlying0
  a0 := Try.isAgg0
  z0 := Try.sizeOf0
  v0 := Try.zeroValue0
  t3 := Try.underlying3
  a3 := Try.isAgg3
  z3 := Try.sizeOf3
  v3 := Try.zeroValue3
  t4 := Try.underlying4
  a4 := Try.isAgg4
  z4 := Try.sizeOf4
  v4 := Try.zeroValue4
  t22 := Try.underlying22
  a22 := Try.isAgg22
  z22 := Try.sizeOf22
  v22 := Try.zeroValue22
  t48 := Try.underlying48
  a48 := Try.isAgg48
  z48 := Try.sizeOf48
  v48 := Try.zeroValue48
  t58 := Try.underlying58
  a58 := Try.isAgg58
  z58 := Try.sizeOf58
  v58 := Try.zeroValue58
  aF := Try.isAgg26
  zF := Try.sizeOf26
  fSw := Try.func41
  fRo := Try.func40
  fSy := Try.func39

set_option maxHeartbeats 4000000 in
set_option maxRecDepth 1000000 in
theorem sw_range {P : Program} {k : Nat} (L : Prg P k) (g : Nat) (cb : Array Value) (blk off cap a b n : Nat) (d0 d : Array Fa) (w0 w : World)
    (R : RowK encF k w0 blk off d0) (hs : d0.size = d.size) (S : SWK encF k w0 blk off d w) (hab : a + n ≤ b) (hb : b + n ≤ d.size) (hsz : d.size < 4611686018427387904) :
    Calls P 41 #[.slice (some ⟨blk, off, none⟩) d.size cap, .int .i64 a, .int .i64 b, .int .i64 n, .func (.func g) #[] cb] w fun e w' => e = .returned (.tuple #[]) ∧ SWK encF k w0 blk off (swr d a b n) w' := by
  have mixed := L.mixed; have t0 := L.t0; have a0 := L.a0; have z0 := L.z0; have v0 := L.v0; have t3 := L.t3; have a3 := L.a3; have z3 := L.z3; have v3 := L.v3; have t4 := L.t4; have a4 := L.a4; have z4 := L.z4; have v4 := L.v4; have t22 := L.t22; have a22 := L.a22; have z22 := L.z22; have v22 := L.v22; have t48 := L.t48; have a48 := L.a48; have z48 := L.z48; have v48 := L.v48
  have aE := L.aF; have zE := L.zF
  have FG := L.fSw
  have S0 : Aside (SWK encF k w0 blk off d w) := S
  clear S
  go_enter FG, Try.ntmps41
  go_wp2
  go_loopg [10] n (fun kx s10 wr => ∃ i : Nat, s10 = .int .i64 i ∧ i ≤ n ∧ n - i ≤ kx ∧ Aside (SWK encF k w0 blk off (swr d a b i) wr))
  case atStart => exact ⟨0, rfl, Nat.zero_le _, Nat.le_refl _, S0⟩
  case round =>
    clear S0
    obtain ⟨i, rfl, hi, hkx, S1⟩ := hrel
    by_cases hlt : i < n
    · have hltz : (i : Int) < (n : Int) := by omega
      have hds : (swr d a b i).size = d.size := size_swr d a b i
      go_wp2_with fail
      have ea44 : ((a : Int) + (i : Int)).toNat = a + i := by omega
      have pa44 : (0 : Int) ≤ (a : Int) + (i : Int) := by omega
      have ba44 : (a : Int) + (i : Int) < (d.size : Int) := by omega
      have ra44 : IntKind.i64.wrap ((a : Int) + (i : Int)) = (a : Int) + (i : Int) := by rw [IntKind.wrap_i64]; omega
      have ec44 : ((b : Int) + (i : Int)).toNat = b + i := by omega
      have pc44 : (0 : Int) ≤ (b : Int) + (i : Int) := by omega
      have bc44 : (b : Int) + (i : Int) < (d.size : Int) := by omega
      have rc44 : IntKind.i64.wrap ((b : Int) + (i : Int)) = (b : Int) + (i : Int) := by rw [IntKind.wrap_i64]; omega
      have S2 : Aside (SWK encF k w0 blk off (swr d a b (i + 1)) ((wr.drew.setCells blk (off + (a + i) * k) (encF (swr d a b i)[b + i]!)).setCells blk (off + (b + i) * k) (encF (swr d a b i)[a + i]!))) := S1.out.swapped R (a + i) (b + i) (by omega) (by omega)
      have l44a := S1.out.ld1 R (by omega) P (a + i) (by omega)
      have l44b := S1.out.ld1 R (by omega) P (b + i) (by omega)
      have s44a := S1.out.st1 R (by omega) P (a + i) (by omega) (swr d a b i)[b + i]!
      have s44b := S1.out.st2 R (by omega) P (a + i) (b + i) (by omega) (by omega) (swr d a b i)[b + i]! (swr d a b i)[a + i]!
      have n44a : (encF (swr d a b i)[a + i]!).length = k := R.hk _
      have n44b : (encF (swr d a b i)[b + i]!).length = k := R.hk _
      generalize encF (swr d a b i)[a + i]! = cI44 at S2 l44a s44b n44a
      generalize encF (swr d a b i)[b + i]! = cJ44 at S2 l44b s44a s44b n44b
      clear S1
      go_wp2_with fail
      go_big_region_o
      clear l44a l44b s44a s44b
      generalize (wr.drew.setCells blk (off + (a + i) * k) cJ44).setCells blk (off + (b + i) * k) cI44 = w2 at S2 ⊢
      go_wp2
      go_roundg (n - (i + 1))
      case measure => omega
      case rel => exact ⟨i + 1, by go_num, by omega, Nat.le_refl _, S2⟩
    · obtain rfl : i = n := by omega
      go_wp2
      go_end0
      exact ⟨rfl, S1.out⟩

theorem sw_rangeI {P : Program} {k : Nat} (L : Prg P k) (g : Nat) (cb : Array Value) (blk off cap a b n : Nat) (az bz nz : Int) (ea : az = a) (eb : bz = b) (en : nz = n) (d0 d : Array Fa) (w0 w : World)
    (R : RowK encF k w0 blk off d0) (hs : d0.size = d.size) (S : SWK encF k w0 blk off d w) (hab : a + n ≤ b) (hb : b + n ≤ d.size) (hsz : d.size < 4611686018427387904) :
    Calls P 41 #[.slice (some ⟨blk, off, none⟩) d.size cap, .int .i64 az, .int .i64 bz, .int .i64 nz, .func (.func g) #[] cb] w fun e w' => e = .returned (.tuple #[]) ∧ SWK encF k w0 blk off (swr d a b n) w' := by
  subst ea eb en
  exact sw_range L g cb blk off cap a b n d0 d w0 w R hs S hab hb hsz

/-- what a rotation has still to do: X and Y change places -/
def RoL (F : List Fa) (m x y : Nat) (dk : Array Fa) : Prop := ∃ A X Y B : List Fa, dk.toList = A ++ X ++ Y ++ B ∧ x = X.length ∧ y = Y.length ∧ m = A.length + X.length ∧ F = A ++ Y ++ X ++ B
theorem RoL.more {F : List Fa} {m x y : Nat} {dk : Array Fa} (h : RoL F m x y dk) (hxy : y < x) : RoL F m (x - y) y (swr dk (m - x) m y) := by
  obtain ⟨A, X, Y, B, h, rfl, rfl, rfl, rfl⟩ := h
  have e := List.take_append_drop Y.length X
  have l1 : (X.take Y.length).length = Y.length := by rw [List.length_take]; omega
  have l2 : (X.drop Y.length).length = X.length - Y.length := List.length_drop
  generalize X.take Y.length = X1 at e l1
  generalize X.drop Y.length = X2 at e l2
  subst e
  have h2 := swr_all (d := dk) (A := A) (X := X1) (M := X2) (Y := Y) (B := B) (a := A.length + (X1 ++ X2).length - (X1 ++ X2).length) (b := A.length + (X1 ++ X2).length) (n := Y.length) (by rw [h]; simp) (by omega) (by simp; omega) l1.symm l1
  refine ⟨A ++ Y, X2, X1, B, by rw [h2], by simp at l2 ⊢; omega, l1.symm, by simp; omega, by simp⟩
theorem RoL.less {F : List Fa} {m x y : Nat} {dk : Array Fa} (h : RoL F m x y dk) (hxy : x < y) : RoL F m x (y - x) (swr dk (m - x) (m + y - x) x) := by
  obtain ⟨A, X, Y, B, h, rfl, rfl, rfl, rfl⟩ := h
  have e := List.take_append_drop (Y.length - X.length) Y
  have l1 : (Y.take (Y.length - X.length)).length = Y.length - X.length := by rw [List.length_take]; omega
  have l2 : (Y.drop (Y.length - X.length)).length = X.length := by rw [List.length_drop]; omega
  generalize Y.take (Y.length - X.length) = Y1 at e l1
  generalize Y.drop (Y.length - X.length) = Y2 at e l2
  subst e
  have h2 := swr_all (d := dk) (A := A) (X := X) (M := Y1) (Y := Y2) (B := B) (a := A.length + X.length - X.length) (b := A.length + X.length + (Y1 ++ Y2).length - X.length) (n := X.length) (by rw [h]; simp) (by omega) (by simp at l1 ⊢; omega) rfl l2.symm
  refine ⟨A, Y2, Y1, X ++ B, by rw [h2]; simp, l2.symm, by simp at l1 ⊢; omega, by omega, by simp⟩
theorem RoL.last {F : List Fa} {m x : Nat} {dk : Array Fa} (h : RoL F m x x dk) : (swr dk (m - x) m x).toList = F := by
  obtain ⟨A, X, Y, B, h, rfl, hy, rfl, rfl⟩ := h
  have h2 := swr_all (d := dk) (A := A) (X := X) (M := []) (Y := Y) (B := B) (a := A.length + X.length - X.length) (b := A.length + X.length) (n := X.length) (by rw [h]; simp) (by omega) (by simp) rfl hy
  rw [h2]; simp

set_option maxHeartbeats 4000000 in
set_option maxRecDepth 1000000 in
theorem sw_rotate {P : Program} {k : Nat} (L : Prg P k) (g : Nat) (cb : Array Value) (blk off cap a m b : Nat) (d0 d : Array Fa) (F : List Fa) (w0 w : World)
    (R : RowK encF k w0 blk off d0) (hs : d0.size = d.size) (S : SWK encF k w0 blk off d w) (ham : a < m) (hmb : m < b) (hb : b ≤ d.size) (hsz : d.size < 4611686018427387904) (hF : RoL F m (m - a) (b - m) d) :
    Calls P 40 #[.slice (some ⟨blk, off, none⟩) d.size cap, .int .i64 a, .int .i64 m, .int .i64 b, .func (.func g) #[] cb] w fun e w' => e = .returned (.tuple #[]) ∧ ∃ d' : Array Fa, d'.size = d.size ∧ d'.toList = F ∧ SWK encF k w0 blk off d' w' := by
  have mixed := L.mixed; have t0 := L.t0; have a0 := L.a0; have z0 := L.z0; have v0 := L.v0; have t3 := L.t3; have a3 := L.a3; have z3 := L.z3; have v3 := L.v3; have t4 := L.t4; have a4 := L.a4; have z4 := L.z4; have v4 := L.v4; have t22 := L.t22; have a22 := L.a22; have z22 := L.z22; have v22 := L.v22; have t48 := L.t48; have a48 := L.a48; have z48 := L.z48; have v48 := L.v48
  have FG := L.fRo
  have eSw : ∀ args w, (callFunc 41 args).run P w = .ok (.enter 41 args) w := enters_of L.fSw (by kernel_rfl) rfl
  have S0 : Aside (SWK encF k w0 blk off d w) := S
  have HF : Aside (RoL F m (m - a) (b - m) d) := hF
  clear S hF
  go_enter FG, Try.ntmps40
  go_wp2
  go_loopg [10, 11] (b - a) (fun kx s10 s11 wr => ∃ (x y : Nat) (dk : Array Fa), s10 = .int .i64 x ∧ s11 = .int .i64 y ∧ 1 ≤ x ∧ 1 ≤ y ∧ x ≤ m - a ∧ y ≤ b - m ∧ x + y ≤ kx ∧ dk.size = d.size ∧ Aside (SWK encF k w0 blk off dk wr) ∧ Aside (RoL F m x y dk))
  case atStart => exact ⟨m - a, b - m, d, by go_num, by go_num, by omega, by omega, by omega, by omega, by omega, rfl, S0, HF⟩
  case round =>
    clear S0 HF
    obtain ⟨x, y, dk, rfl, rfl, hx1, hy1, hxm, hyb, hkx, hds, S1, H1⟩ := hrel
    rcases Nat.lt_trichotomy x y with hlt | heq | hgt
    · have h1z : ¬ (x : Int) = (y : Int) := by omega
      have h2z : ¬ (y : Int) < (x : Int) := by omega
      have hcall := sw_rangeI L g cb blk off cap (m - x) (m + y - x) x ((m : Int) - (x : Int)) ((m : Int) + (y : Int) - (x : Int)) x (by omega) (by omega) rfl d0 dk w0 wr R (by omega) S1.out (by omega) (by omega) (by omega)
      rw [hds] at hcall
      have H2 : Aside (RoL F m x (y - x) (swr dk (m - x) (m + y - x) x)) := H1.out.less hlt
      have hz2 : (swr dk (m - x) (m + y - x) x).size = d.size := by rw [size_swr, hds]
      clear S1 H1
      generalize swr dk (m - x) (m + y - x) x = d2 at hcall H2 hz2
      go_wp2_with (go_at_fn 41; refine hcall.mono ?_; rintro e w1 ⟨rfl, S3⟩)
      go_roundg y
      case measure => omega
      case rel => exact ⟨x, y - x, d2, rfl, by go_num, hx1, by omega, hxm, by omega, by omega, hz2, S3, H2⟩
    · subst heq
      have hcall := sw_rangeI L g cb blk off cap (m - x) m x ((m : Int) - (x : Int)) m x (by omega) rfl rfl d0 dk w0 wr R (by omega) S1.out (by omega) (by omega) (by omega)
      rw [hds] at hcall
      have H2 : Aside ((swr dk (m - x) m x).toList = F) := H1.out.last
      have hz2 : (swr dk (m - x) m x).size = d.size := by rw [size_swr, hds]
      clear S1 H1
      generalize swr dk (m - x) m x = d2 at hcall H2 hz2
      go_wp2_with (go_at_fn 41; refine hcall.mono ?_; rintro e w1 ⟨rfl, S3⟩)
      go_end0
      exact ⟨rfl, d2, hz2, H2.out, S3⟩
    · have h1z : ¬ (x : Int) = (y : Int) := by omega
      have h2z : (y : Int) < (x : Int) := by omega
      have hcall := sw_rangeI L g cb blk off cap (m - x) m y ((m : Int) - (x : Int)) m y (by omega) rfl rfl d0 dk w0 wr R (by omega) S1.out (by omega) (by omega) (by omega)
      rw [hds] at hcall
      have H2 : Aside (RoL F m (x - y) y (swr dk (m - x) m y)) := H1.out.more hgt
      have hz2 : (swr dk (m - x) m y).size = d.size := by rw [size_swr, hds]
      clear S1 H1
      generalize swr dk (m - x) m y = d2 at hcall H2 hz2
      go_wp2_with (go_at_fn 41; refine hcall.mono ?_; rintro e w1 ⟨rfl, S3⟩)
      go_roundg x
      case measure => omega
      case rel => exact ⟨x - y, y, d2, by go_num, rfl, by omega, hy1, by omega, hyb, by omega, hz2, S3, H2⟩

end Go.Proofs.Ytbpkaegkcknemaa
