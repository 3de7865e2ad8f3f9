/- Texts of one claim, merged: Shelf, FaS1, FaC1, FaC2, FaC3, ChM, FrC0, CeC0, CeC2, CeC3. -/
import Derived.Shelf.Strings.Builder2
import Derived.Shelf.Strings.BuilderK
import Derived.Shelf.Strings.Repeat
import Derived.Shelf.SlicesQ.IndexFunc
import Derived.Shelf.SlSortCmp.KitK
import Derived.Shelf.SlicesE.Clone
import Derived.Shelf.SlicesG.Cmp
import Derived.Test.YtlijndkpgmbapaaGreatDoorChecked
import Derived.Test.YtlijndkpgmbapaaGreatDoorS2
import Derived.Sort.WalkB2
import Derived.Sort.WalkB12
import Derived.Deep.LoopGhost
import Derived.Test.YtlijndkpgmbapaaGreatDoorS1
import Derived.Deep.MidRow
import Derived.Lib.SliceRun
import Derived.Laws.AppendOwn
import Derived.LoopN
import Derived.Deep.QuietTactic
import Derived.BigQuiet
import Derived.StillTailTactics
import Derived.Test.YtlijndkpgmbapaaGreatDoorS3

/-
  DERIVED: THE SHELF's CONTRACTS AT THIS DUMP, IN PLAIN WORDS (tools/lay-plain.mjs out of 'YtlijndkpgmbapaaGreatDoorShelf.lean', which tools/lay-shelf.mjs wrote): THE SAME DECLARATIONS UNDER THE SAME NAMES: 'import', 'namespace', 'open', 'def', 'theorem' AND NOTHING ELSE: no command of the shelf's: FOR A HAND-IN. Each laying: the table of numbers ('.._ren') and one theorem, a field a fact of the dump's own or the kernel's comparison; each contract: ONE APPLICATION.
-/
namespace Go.Proofs
open Go.Shelf
def Tryz.lays105_ren : Go.Shelf.Ren := ⟨fun | 105 => 64 | 212 => 115 | 99 => 116 | 165 => 108 | 166 => 113 | 170 => 117 | 169 => 114 | 263 => 149 | 264 => 150 | 206 => 151 | 240 => 143 | 241 => 144 | 276 => 163 | 277 => 164 | n => n, fun | 9 => 9 | 3 => 3 | 4 => 4 | 20 => 20 | 0 => 0 | 46 => 155 | 109 => 156 | 5 => 5 | 72 => 144 | 76 => 152 | 51 => 182 | 146 => 183 | 53 => 167 | 148 => 185 | 70 => 142 | 37 => 106 | 75 => 151 | 127 => 181 | 164 => 199 | 80 => 154 | n => n, fun | n => n⟩
theorem Tryz.lays105 : Go.Proofs.Lays.n105 Tryz.prog Tryz.lays105_ren := {
  mixed := by kernel_rfl
  f99 := Tryz.func116.trans (congrArg some (by kernel_rfl))
  f105 := Tryz.func64.trans (congrArg some (by kernel_rfl))
  f165 := Tryz.func108.trans (congrArg some (by kernel_rfl))
  f166 := Tryz.func113.trans (congrArg some (by kernel_rfl))
  f169 := Tryz.func114.trans (congrArg some (by kernel_rfl))
  f170 := Tryz.func117.trans (congrArg some (by kernel_rfl))
  f206 := Tryz.func151.trans (congrArg some (by kernel_rfl))
  f212 := Tryz.func115.trans (congrArg some (by kernel_rfl))
  f240 := Tryz.func143.trans (congrArg some (by kernel_rfl))
  f241 := Tryz.func144.trans (congrArg some (by kernel_rfl))
  f263 := Tryz.func149.trans (congrArg some (by kernel_rfl))
  f264 := Tryz.func150.trans (congrArg some (by kernel_rfl))
  f276 := Tryz.func163.trans (congrArg some (by kernel_rfl))
  f277 := Tryz.func164.trans (congrArg some (by kernel_rfl))
  t0 := Tryz.underlying0
  a0 := Tryz.isAgg0
  z0 := Tryz.sizeOf0
  v0 := Tryz.zeroValue0
  t3 := Tryz.underlying3
  a3 := Tryz.isAgg3
  z3 := Tryz.sizeOf3
  v3 := Tryz.zeroValue3
  t4 := Tryz.underlying4
  a4 := Tryz.isAgg4
  z4 := Tryz.sizeOf4
  v4 := Tryz.zeroValue4
  t5 := Tryz.underlying5
  a5 := Tryz.isAgg5
  z5 := Tryz.sizeOf5
  v5 := Tryz.zeroValue5
  t9 := Tryz.underlying9
  a9 := Tryz.isAgg9
  z9 := Tryz.sizeOf9
  v9 := Tryz.zeroValue9
  t20 := Tryz.underlying20
  a20 := Tryz.isAgg20
  z20 := Tryz.sizeOf20
  v20 := Tryz.zeroValue20
  t37 := Tryz.underlying106
  a37 := Tryz.isAgg106
  z37 := Tryz.sizeOf106
  v37 := Tryz.zeroValue106
  t46 := Tryz.underlying155
  a46 := Tryz.isAgg155
  z46 := Tryz.sizeOf155
  v46 := Tryz.zeroValue155
  t51 := Tryz.underlying182
  a51 := Tryz.isAgg182
  z51 := Tryz.sizeOf182
  v51 := Tryz.zeroValue182
  t53 := Tryz.underlying167
  a53 := Tryz.isAgg167
  z53 := Tryz.sizeOf167
  v53 := Tryz.zeroValue167
  t70 := Tryz.underlying142
  a70 := Tryz.isAgg142
  z70 := Tryz.sizeOf142
  v70 := Tryz.zeroValue142
  t72 := Tryz.underlying144
  a72 := Tryz.isAgg144
  z72 := Tryz.sizeOf144
  v72 := Tryz.zeroValue144
  t75 := Tryz.underlying151
  a75 := Tryz.isAgg151
  z75 := Tryz.sizeOf151
  v75 := Tryz.zeroValue151
  t76 := Tryz.underlying152
  a76 := Tryz.isAgg152
  z76 := Tryz.sizeOf152
  v76 := Tryz.zeroValue152
  t109 := Tryz.underlying156
  a109 := Tryz.isAgg156
  z109 := Tryz.sizeOf156
  v109 := Tryz.zeroValue156
  t127 := Tryz.underlying181
  a127 := Tryz.isAgg181
  z127 := Tryz.sizeOf181
  v127 := Tryz.zeroValue181
  t146 := Tryz.underlying183
  a146 := Tryz.isAgg183
  z146 := Tryz.sizeOf183
  v146 := Tryz.zeroValue183
  t148 := Tryz.underlying185
  a148 := Tryz.isAgg185
  z148 := Tryz.sizeOf185
  v148 := Tryz.zeroValue185
  t164 := Tryz.underlying199
  a164 := Tryz.isAgg199
  z164 := Tryz.sizeOf199
  v164 := Tryz.zeroValue199 }
theorem Tryz.Builder_Extra_105 : Builder.Extra Tryz.prog Tryz.lays105_ren := {
  sizeBuilder := by kernel_rfl
  liesBuilder := by kernel_rfl
  t5 := Tryz.underlying5
  a5 := Tryz.isAgg5
  z5 := Tryz.sizeOf5
  v5 := Tryz.zeroValue5
  infoByte := by kernel_rfl
  cellsByte := by kernel_rfl
  sizeByte := by kernel_rfl
  neB5 := by decide }
def Tryz.idxf_ren : Go.Shelf.Ren := ⟨fun | 6 => 124 | n => n, fun | 22 => 24 | 23 => 40 | 25 => 131 | 3 => 3 | 0 => 0 | 4 => 4 | n => n, fun | n => n⟩
theorem Tryz.idxf : Go.Proofs.SlLaysH0.n6 Tryz.prog Tryz.idxf_ren := {
  mixed := by kernel_rfl
  f6 := ⟨Tryz.f124.name, by decide, Tryz.func124.trans (congrArg some (by kernel_rfl))⟩
  t0 := Tryz.underlying0
  a0 := Tryz.isAgg0
  z0 := Tryz.sizeOf0
  v0 := Tryz.zeroValue0
  t3 := Tryz.underlying3
  a3 := Tryz.isAgg3
  z3 := Tryz.sizeOf3
  v3 := Tryz.zeroValue3
  t4 := Tryz.underlying4
  a4 := Tryz.isAgg4
  z4 := Tryz.sizeOf4
  v4 := Tryz.zeroValue4
  t22 := Tryz.underlying24
  a22 := Tryz.isAgg24
  z22 := Tryz.sizeOf24
  v22 := Tryz.zeroValue24
  t25 := Tryz.underlying131
  a25 := Tryz.isAgg131
  z25 := Tryz.sizeOf131
  v25 := Tryz.zeroValue131 }
def Tryz.ins_ren : Go.Shelf.Ren := ⟨fun | 20 => 168 | n => n, fun | 24 => 40 | 22 => 24 | 3 => 3 | 25 => 162 | 4 => 4 | 0 => 0 | n => n, fun | n => n⟩
theorem Tryz.ins : Go.Proofs.SlLaysF0.n20 Tryz.prog Tryz.ins_ren := {
  mixed := by kernel_rfl
  f20 := ⟨Tryz.f168.name, by decide, Tryz.func168.trans (congrArg some (by kernel_rfl))⟩
  t0 := Tryz.underlying0
  a0 := Tryz.isAgg0
  z0 := Tryz.sizeOf0
  v0 := Tryz.zeroValue0
  t3 := Tryz.underlying3
  a3 := Tryz.isAgg3
  z3 := Tryz.sizeOf3
  v3 := Tryz.zeroValue3
  t4 := Tryz.underlying4
  a4 := Tryz.isAgg4
  z4 := Tryz.sizeOf4
  v4 := Tryz.zeroValue4
  t22 := Tryz.underlying24
  a22 := Tryz.isAgg24
  z22 := Tryz.sizeOf24
  v22 := Tryz.zeroValue24
  t25 := Tryz.underlying162
  a25 := Tryz.isAgg162
  z25 := Tryz.sizeOf162
  v25 := Tryz.zeroValue162 }
def Tryz.cmpInt_ren : Go.Shelf.Ren := ⟨fun | 5 => 122 | 7 => 153 | n => n, fun | 22 => 3 | 3 => 3 | 4 => 4 | n => n, fun | n => n⟩
theorem Tryz.cmpInt : Go.Proofs.SlLaysC2.n5 Tryz.prog Tryz.cmpInt_ren := {
  mixed := by kernel_rfl
  f5 := ⟨Tryz.f122.name, by decide, Tryz.func122.trans (congrArg some (by kernel_rfl))⟩
  f7 := ⟨Tryz.f153.name, by decide, Tryz.func153.trans (congrArg some (by kernel_rfl))⟩
  t3 := Tryz.underlying3
  a3 := Tryz.isAgg3
  z3 := Tryz.sizeOf3
  v3 := Tryz.zeroValue3
  t4 := Tryz.underlying4
  a4 := Tryz.isAgg4
  z4 := Tryz.sizeOf4
  v4 := Tryz.zeroValue4
  t22 := Tryz.underlying3
  a22 := Tryz.isAgg3
  z22 := Tryz.sizeOf3
  v22 := Tryz.zeroValue3 }
def Tryz.clone_ren : Go.Shelf.Ren := ⟨fun | 41 => 119 | n => n, fun | 22 => 24 | 23 => 40 | 4 => 4 | n => n, fun | n => n⟩
theorem Tryz.clone : Go.Proofs.SlLaysE0.n41 Tryz.prog Tryz.clone_ren := {
  mixed := by kernel_rfl
  f41 := ⟨Tryz.f119.name, by decide, Tryz.func119.trans (congrArg some (by kernel_rfl))⟩
  t4 := Tryz.underlying4
  a4 := Tryz.isAgg4
  z4 := Tryz.sizeOf4
  v4 := Tryz.zeroValue4
  t22 := Tryz.underlying24
  a22 := Tryz.isAgg24
  z22 := Tryz.sizeOf24
  v22 := Tryz.zeroValue24 }
end Go.Proofs

/- The library's stable sort at faults, walked: what the walks ask of the program; exchanges of two ranges; a rotation. -/
namespace Go.Proofs.YtlijndkpgmbapaaGreatDoor
set_option maxRecDepth 100000
open Go.Shelf Go.RowKit Go.Lib Go.Sort Go.Proofs

/-- a fault's cells -/
def encF (x : Fa) : List Value := [.int .i64 x.1, .int .i64 x.2.1, .int .i64 x.2.2.1, .int .i64 x.2.2.2]
theorem encF_len (x : Fa) : (encF x).length = 4 := rfl
theorem encF_one (x : Fa) : ∀ v ∈ encF x, v.oneCell' = true := by
  intro v hv
  simp [encF] at hv
  rcases hv with rfl | rfl | rfl | rfl <;> rfl

/-- what the walks ask of the program: its types, its functions; a fault's size under a name -/
structure Prg (P : Program) (k : Nat) : Prop where
  mixed : P.follows .mixedOrders = true
  t0 : P.underlying 0 = some (TypeDesc.tuple #[])
  a0 : ∀ w, Sem.run P (isAgg 0) w = .ok false w
  z0 : ∀ w, Sem.run P (Go.sizeOf 0) w = .ok 1 w
  v0 : ∀ w, Sem.run P (zeroValue 0) w = .ok (Value.tuple #[]) w
  t3 : P.underlying 3 = some (TypeDesc.int IntKind.i64)
  a3 : ∀ w, Sem.run P (isAgg 3) w = .ok false w
  z3 : ∀ w, Sem.run P (Go.sizeOf 3) w = .ok 1 w
  v3 : ∀ w, Sem.run P (zeroValue 3) w = .ok (Value.int .i64 0) w
  t4 : P.underlying 4 = some TypeDesc.bool
  a4 : ∀ w, Sem.run P (isAgg 4) w = .ok false w
  z4 : ∀ w, Sem.run P (Go.sizeOf 4) w = .ok 1 w
  v4 : ∀ w, Sem.run P (zeroValue 4) w = .ok (Value.bool false) w
  t22 : P.underlying 24 = some (TypeDesc.slice 40)
  a22 : ∀ w, Sem.run P (isAgg 24) w = .ok false w
  z22 : ∀ w, Sem.run P (Go.sizeOf 24) w = .ok 1 w
  v22 : ∀ w, Sem.run P (zeroValue 24) w = .ok (Value.slice none 0 0) w
  t48 : P.underlying 162 = some (TypeDesc.func #[40, 40] #[3] false)
  a48 : ∀ w, Sem.run P (isAgg 162) w = .ok false w
  z48 : ∀ w, Sem.run P (Go.sizeOf 162) w = .ok 1 w
  v48 : ∀ w, Sem.run P (zeroValue 162) w = .ok Value.nilFunc w
  t58 : P.underlying 155 = some (TypeDesc.int IntKind.u64)
  a58 : ∀ w, Sem.run P (isAgg 155) w = .ok false w
  z58 : ∀ w, Sem.run P (Go.sizeOf 155) w = .ok 1 w
  v58 : ∀ w, Sem.run P (zeroValue 155) w = .ok (Value.int .u64 0) w
  aF : ∀ w, Sem.run P (isAgg 40) w = .ok true w
  zF : ∀ w, Sem.run P (Go.sizeOf 40) w = .ok k w
  fSw : P.funcs[174]? = some Tryz.f174
  fRo : P.funcs[172]? = some Tryz.f172
  fSy : P.funcs[169]? = some Tryz.f169

theorem prgA : Prg Tryz.prog 4 where
  mixed := by kernel_rfl
  t0 := Tryz.underlying0
  a0 := Tryz.isAgg0
  z0 := Tryz.sizeOf0
  v0 := Tryz.zeroValue0
  t3 := Tryz.underlying3
  a3 := Tryz.isAgg3
  z3 := Tryz.sizeOf3
  v3 := Tryz.zeroValue3
  t4 := Tryz.underlying4
  a4 := Tryz.isAgg4
  z4 := Tryz.sizeOf4
  v4 := Tryz.zeroValue4
  t22 := Tryz.underlying24
  a22 := Tryz.isAgg24
  z22 := Tryz.sizeOf24
  v22 := Tryz.zeroValue24
  t48 := Tryz.underlying162
  a48 := Tryz.isAgg162
  z48 := Tryz.sizeOf162
  v48 := Tryz.zeroValue162
  t58 := Tryz.underlying155
  a58 := Tryz.isAgg155
  z58 := Tryz.sizeOf155
  v58 := Tryz.zeroValue155
  aF := Tryz.isAgg40
  zF := Tryz.sizeOf40
  fSw := Tryz.func174
  fRo := Tryz.func172
  fSy := Tryz.func169

set_option maxHeartbeats 4000000 in
set_option maxRecDepth 1000000 in
theorem sw_range {P : Program} {k : Nat} (L : Prg P k) (g : Nat) (cb : Array Value) (blk off cap a b n : Nat) (d0 d : Array Fa) (w0 w : World)
    (R : RowK encF k w0 blk off d0) (hs : d0.size = d.size) (S : SWK encF k w0 blk off d w) (hab : a + n ≤ b) (hb : b + n ≤ d.size) (hsz : d.size < 4611686018427387904) :
    Calls P 174 #[.slice (some ⟨blk, off, none⟩) d.size cap, .int .i64 a, .int .i64 b, .int .i64 n, .func (.func g) #[] cb] w fun e w' => e = .returned (.tuple #[]) ∧ SWK encF k w0 blk off (swr d a b n) w' := by
  have mixed := L.mixed; have t0 := L.t0; have a0 := L.a0; have z0 := L.z0; have v0 := L.v0; have t3 := L.t3; have a3 := L.a3; have z3 := L.z3; have v3 := L.v3; have t4 := L.t4; have a4 := L.a4; have z4 := L.z4; have v4 := L.v4; have t22 := L.t22; have a22 := L.a22; have z22 := L.z22; have v22 := L.v22; have t48 := L.t48; have a48 := L.a48; have z48 := L.z48; have v48 := L.v48
  have aE := L.aF; have zE := L.zF
  have FG := L.fSw
  have S0 : Aside (SWK encF k w0 blk off d w) := S
  clear S
  go_enter FG, Tryz.ntmps174
  go_wp2
  go_loopg [10] n (fun kx s10 wr => ∃ i : Nat, s10 = .int .i64 i ∧ i ≤ n ∧ n - i ≤ kx ∧ Aside (SWK encF k w0 blk off (swr d a b i) wr))
  case atStart => exact ⟨0, rfl, Nat.zero_le _, Nat.le_refl _, S0⟩
  case round =>
    clear S0
    obtain ⟨i, rfl, hi, hkx, S1⟩ := hrel
    by_cases hlt : i < n
    · have hltz : (i : Int) < (n : Int) := by omega
      have hds : (swr d a b i).size = d.size := size_swr d a b i
      go_wp2_with fail
      have ea44 : ((a : Int) + (i : Int)).toNat = a + i := by omega
      have pa44 : (0 : Int) ≤ (a : Int) + (i : Int) := by omega
      have ba44 : (a : Int) + (i : Int) < (d.size : Int) := by omega
      have ra44 : IntKind.i64.wrap ((a : Int) + (i : Int)) = (a : Int) + (i : Int) := by rw [IntKind.wrap_i64]; omega
      have ec44 : ((b : Int) + (i : Int)).toNat = b + i := by omega
      have pc44 : (0 : Int) ≤ (b : Int) + (i : Int) := by omega
      have bc44 : (b : Int) + (i : Int) < (d.size : Int) := by omega
      have rc44 : IntKind.i64.wrap ((b : Int) + (i : Int)) = (b : Int) + (i : Int) := by rw [IntKind.wrap_i64]; omega
      have S2 : Aside (SWK encF k w0 blk off (swr d a b (i + 1)) ((wr.drew.setCells blk (off + (a + i) * k) (encF (swr d a b i)[b + i]!)).setCells blk (off + (b + i) * k) (encF (swr d a b i)[a + i]!))) := S1.out.swapped R (a + i) (b + i) (by omega) (by omega)
      have l44a := S1.out.ld1 R (by omega) P (a + i) (by omega)
      have l44b := S1.out.ld1 R (by omega) P (b + i) (by omega)
      have s44a := S1.out.st1 R (by omega) P (a + i) (by omega) (swr d a b i)[b + i]!
      have s44b := S1.out.st2 R (by omega) P (a + i) (b + i) (by omega) (by omega) (swr d a b i)[b + i]! (swr d a b i)[a + i]!
      have n44a : (encF (swr d a b i)[a + i]!).length = k := R.hk _
      have n44b : (encF (swr d a b i)[b + i]!).length = k := R.hk _
      generalize encF (swr d a b i)[a + i]! = cI44 at S2 l44a s44b n44a
      generalize encF (swr d a b i)[b + i]! = cJ44 at S2 l44b s44a s44b n44b
      clear S1
      go_wp2_with fail
      go_big_region_o
      clear l44a l44b s44a s44b
      generalize (wr.drew.setCells blk (off + (a + i) * k) cJ44).setCells blk (off + (b + i) * k) cI44 = w2 at S2 ⊢
      go_wp2
      go_roundg (n - (i + 1))
      case measure => omega
      case rel => exact ⟨i + 1, by go_num, by omega, Nat.le_refl _, S2⟩
    · obtain rfl : i = n := by omega
      go_wp2
      go_end0
      exact ⟨rfl, S1.out⟩

theorem sw_rangeI {P : Program} {k : Nat} (L : Prg P k) (g : Nat) (cb : Array Value) (blk off cap a b n : Nat) (az bz nz : Int) (ea : az = a) (eb : bz = b) (en : nz = n) (d0 d : Array Fa) (w0 w : World)
    (R : RowK encF k w0 blk off d0) (hs : d0.size = d.size) (S : SWK encF k w0 blk off d w) (hab : a + n ≤ b) (hb : b + n ≤ d.size) (hsz : d.size < 4611686018427387904) :
    Calls P 174 #[.slice (some ⟨blk, off, none⟩) d.size cap, .int .i64 az, .int .i64 bz, .int .i64 nz, .func (.func g) #[] cb] w fun e w' => e = .returned (.tuple #[]) ∧ SWK encF k w0 blk off (swr d a b n) w' := by
  subst ea eb en
  exact sw_range L g cb blk off cap a b n d0 d w0 w R hs S hab hb hsz

/-- what a rotation has still to do: X and Y change places -/
def RoL (F : List Fa) (m x y : Nat) (dk : Array Fa) : Prop := ∃ A X Y B : List Fa, dk.toList = A ++ X ++ Y ++ B ∧ x = X.length ∧ y = Y.length ∧ m = A.length + X.length ∧ F = A ++ Y ++ X ++ B
theorem RoL.more {F : List Fa} {m x y : Nat} {dk : Array Fa} (h : RoL F m x y dk) (hxy : y < x) : RoL F m (x - y) y (swr dk (m - x) m y) := by
  obtain ⟨A, X, Y, B, h, rfl, rfl, rfl, rfl⟩ := h
  have e := List.take_append_drop Y.length X
  have l1 : (X.take Y.length).length = Y.length := by rw [List.length_take]; omega
  have l2 : (X.drop Y.length).length = X.length - Y.length := List.length_drop
  generalize X.take Y.length = X1 at e l1
  generalize X.drop Y.length = X2 at e l2
  subst e
  have h2 := swr_all (d := dk) (A := A) (X := X1) (M := X2) (Y := Y) (B := B) (a := A.length + (X1 ++ X2).length - (X1 ++ X2).length) (b := A.length + (X1 ++ X2).length) (n := Y.length) (by rw [h]; simp) (by omega) (by simp; omega) l1.symm l1
  refine ⟨A ++ Y, X2, X1, B, by rw [h2], by simp at l2 ⊢; omega, l1.symm, by simp; omega, by simp⟩
theorem RoL.less {F : List Fa} {m x y : Nat} {dk : Array Fa} (h : RoL F m x y dk) (hxy : x < y) : RoL F m x (y - x) (swr dk (m - x) (m + y - x) x) := by
  obtain ⟨A, X, Y, B, h, rfl, rfl, rfl, rfl⟩ := h
  have e := List.take_append_drop (Y.length - X.length) Y
  have l1 : (Y.take (Y.length - X.length)).length = Y.length - X.length := by rw [List.length_take]; omega
  have l2 : (Y.drop (Y.length - X.length)).length = X.length := by rw [List.length_drop]; omega
  generalize Y.take (Y.length - X.length) = Y1 at e l1
  generalize Y.drop (Y.length - X.length) = Y2 at e l2
  subst e
  have h2 := swr_all (d := dk) (A := A) (X := X) (M := Y1) (Y := Y2) (B := B) (a := A.length + X.length - X.length) (b := A.length + X.length + (Y1 ++ Y2).length - X.length) (n := X.length) (by rw [h]; simp) (by omega) (by simp at l1 ⊢; omega) rfl l2.symm
  refine ⟨A, Y2, Y1, X ++ B, by rw [h2]; simp, l2.symm, by simp at l1 ⊢; omega, by omega, by simp⟩
theorem RoL.last {F : List Fa} {m x : Nat} {dk : Array Fa} (h : RoL F m x x dk) : (swr dk (m - x) m x).toList = F := by
  obtain ⟨A, X, Y, B, h, rfl, hy, rfl, rfl⟩ := h
  have h2 := swr_all (d := dk) (A := A) (X := X) (M := []) (Y := Y) (B := B) (a := A.length + X.length - X.length) (b := A.length + X.length) (n := X.length) (by rw [h]; simp) (by omega) (by simp) rfl hy
  rw [h2]; simp

set_option maxHeartbeats 4000000 in
set_option maxRecDepth 1000000 in
theorem sw_rotate {P : Program} {k : Nat} (L : Prg P k) (g : Nat) (cb : Array Value) (blk off cap a m b : Nat) (d0 d : Array Fa) (F : List Fa) (w0 w : World)
    (R : RowK encF k w0 blk off d0) (hs : d0.size = d.size) (S : SWK encF k w0 blk off d w) (ham : a < m) (hmb : m < b) (hb : b ≤ d.size) (hsz : d.size < 4611686018427387904) (hF : RoL F m (m - a) (b - m) d) :
    Calls P 172 #[.slice (some ⟨blk, off, none⟩) d.size cap, .int .i64 a, .int .i64 m, .int .i64 b, .func (.func g) #[] cb] w fun e w' => e = .returned (.tuple #[]) ∧ ∃ d' : Array Fa, d'.size = d.size ∧ d'.toList = F ∧ SWK encF k w0 blk off d' w' := by
  have mixed := L.mixed; have t0 := L.t0; have a0 := L.a0; have z0 := L.z0; have v0 := L.v0; have t3 := L.t3; have a3 := L.a3; have z3 := L.z3; have v3 := L.v3; have t4 := L.t4; have a4 := L.a4; have z4 := L.z4; have v4 := L.v4; have t22 := L.t22; have a22 := L.a22; have z22 := L.z22; have v22 := L.v22; have t48 := L.t48; have a48 := L.a48; have z48 := L.z48; have v48 := L.v48
  have FG := L.fRo
  have eSw : ∀ args w, (callFunc 174 args).run P w = .ok (.enter 174 args) w := enters_of L.fSw (by kernel_rfl) rfl
  have S0 : Aside (SWK encF k w0 blk off d w) := S
  have HF : Aside (RoL F m (m - a) (b - m) d) := hF
  clear S hF
  go_enter FG, Tryz.ntmps172
  go_wp2
  go_loopg [10, 11] (b - a) (fun kx s10 s11 wr => ∃ (x y : Nat) (dk : Array Fa), s10 = .int .i64 x ∧ s11 = .int .i64 y ∧ 1 ≤ x ∧ 1 ≤ y ∧ x ≤ m - a ∧ y ≤ b - m ∧ x + y ≤ kx ∧ dk.size = d.size ∧ Aside (SWK encF k w0 blk off dk wr) ∧ Aside (RoL F m x y dk))
  case atStart => exact ⟨m - a, b - m, d, by go_num, by go_num, by omega, by omega, by omega, by omega, by omega, rfl, S0, HF⟩
  case round =>
    clear S0 HF
    obtain ⟨x, y, dk, rfl, rfl, hx1, hy1, hxm, hyb, hkx, hds, S1, H1⟩ := hrel
    rcases Nat.lt_trichotomy x y with hlt | heq | hgt
    · have h1z : ¬ (x : Int) = (y : Int) := by omega
      have h2z : ¬ (y : Int) < (x : Int) := by omega
      have hcall := sw_rangeI L g cb blk off cap (m - x) (m + y - x) x ((m : Int) - (x : Int)) ((m : Int) + (y : Int) - (x : Int)) x (by omega) (by omega) rfl d0 dk w0 wr R (by omega) S1.out (by omega) (by omega) (by omega)
      rw [hds] at hcall
      have H2 : Aside (RoL F m x (y - x) (swr dk (m - x) (m + y - x) x)) := H1.out.less hlt
      have hz2 : (swr dk (m - x) (m + y - x) x).size = d.size := by rw [size_swr, hds]
      clear S1 H1
      generalize swr dk (m - x) (m + y - x) x = d2 at hcall H2 hz2
      go_wp2_with (go_at_fn 174; refine hcall.mono ?_; rintro e w1 ⟨rfl, S3⟩)
      go_roundg y
      case measure => omega
      case rel => exact ⟨x, y - x, d2, rfl, by go_num, hx1, by omega, hxm, by omega, by omega, hz2, S3, H2⟩
    · subst heq
      have hcall := sw_rangeI L g cb blk off cap (m - x) m x ((m : Int) - (x : Int)) m x (by omega) rfl rfl d0 dk w0 wr R (by omega) S1.out (by omega) (by omega) (by omega)
      rw [hds] at hcall
      have H2 : Aside ((swr dk (m - x) m x).toList = F) := H1.out.last
      have hz2 : (swr dk (m - x) m x).size = d.size := by rw [size_swr, hds]
      clear S1 H1
      generalize swr dk (m - x) m x = d2 at hcall H2 hz2
      go_wp2_with (go_at_fn 174; refine hcall.mono ?_; rintro e w1 ⟨rfl, S3⟩)
      go_end0
      exact ⟨rfl, d2, hz2, H2.out, S3⟩
    · have h1z : ¬ (x : Int) = (y : Int) := by omega
      have h2z : (y : Int) < (x : Int) := by omega
      have hcall := sw_rangeI L g cb blk off cap (m - x) m y ((m : Int) - (x : Int)) m y (by omega) rfl rfl d0 dk w0 wr R (by omega) S1.out (by omega) (by omega) (by omega)
      rw [hds] at hcall
      have H2 : Aside (RoL F m (x - y) y (swr dk (m - x) m y)) := H1.out.more hgt
      have hz2 : (swr dk (m - x) m y).size = d.size := by rw [size_swr, hds]
      clear S1 H1
      generalize swr dk (m - x) m y = d2 at hcall H2 hz2
      go_wp2_with (go_at_fn 174; refine hcall.mono ?_; rintro e w1 ⟨rfl, S3⟩)
      go_roundg x
      case measure => omega
      case rel => exact ⟨x - y, y, d2, by go_num, rfl, by omega, hy1, by omega, hyb, by omega, hz2, S3, H2⟩

end Go.Proofs.YtlijndkpgmbapaaGreatDoor

/- Package fault and its reference, walked: which kinds fit; rests; pages with a bit turned. -/
namespace Go.Proofs.YtlijndkpgmbapaaGreatDoor
set_option maxRecDepth 100000
open Go.RowKit

def fitsB (k op : Int) : Bool := decide ((1 ≤ op ∧ op ≤ 5) ∧ (k = 1 ∨ (k = 2 ∧ ¬ op = 1) ∨ (k = 3 ∧ op = 1)))
theorem fa_fits (k op : Int) (w : World) : Calls Tryz.prog 126 #[.int .i64 k, .int .i64 op] w fun r w' => r = .returned (.bool (fitsB k op)) ∧ w = w' := by
  unfold fitsB
  go_enter Tryz.func126, Tryz.ntmps126
  go_wp2
  all_goals go_ret
  all_goals exact ⟨ret_bool (by (try simp only [beq_iff_eq, beq_eq_false_iff_ne, ne_eq] at *); rw [Bool.eq_iff_iff]; simp; try omega), rfl⟩
theorem fa_rest (n by' : Int) (w : World) (h0 : 0 < by') (h1 : by' ≤ 100000) : Calls Tryz.prog 86 #[.int .i64 n, .int .i64 by'] w fun r w' => r = .returned (.int .i64 (n % by')) ∧ w = w' := by
  have hm := Int.tmod_eq_emod (a := n) (b := by')
  have hlt := Int.emod_lt_of_pos n h0
  have hge := Int.emod_nonneg n (b := by') (by omega)
  have hab : (by'.natAbs : Int) = by' := by omega
  obtain ⟨x, hx⟩ : ∃ x, n.tmod by' = x := ⟨_, rfl⟩
  obtain ⟨y, hy⟩ : ∃ y, n % by' = y := ⟨_, rfl⟩
  rw [hx, hy] at hm
  rw [hy] at hlt hge ⊢
  have hb' : by' ≠ 0 := by omega
  have hxy : x = y ∨ x = y - by' := by
    by_cases hc : 0 ≤ n ∨ by' ∣ n
    · rw [if_pos hc] at hm; omega
    · rw [if_neg hc, hab] at hm; omega
  have hlo : -100000 ≤ x := by omega
  have hhi : x ≤ 100000 := by omega
  have hz : (x + by').tmod by' = y := by
    rw [Int.tmod_eq_emod_of_nonneg (by omega)]
    rcases hxy with rfl | rfl
    · rw [Int.add_emod_right, Int.emod_eq_of_lt hge hlt]
    · rw [show y - by' + by' = y by omega, Int.emod_eq_of_lt hge hlt]
  clear hm hxy
  go_enter Tryz.func86, Tryz.ntmps86
  go_wp2
  go_ret
  exact ⟨rfl, rfl⟩
/-- which bit of s the fault chooses -/
def bitF (s : ByteArray) (x : Fa) : Nat := (x.2.2.1 % (8 * (s.size : Int))).toNat
theorem bitF_lt (s : ByteArray) (x : Fa) (h : 0 < s.size) : bitF s x < 8 * s.size := by
  have h1 := Int.emod_lt_of_pos x.2.2.1 (b := 8 * (s.size : Int)) (by omega)
  unfold bitF; omega
theorem bitF_int (s : ByteArray) (x : Fa) (h : 0 < s.size) : x.2.2.1 % (8 * (s.size : Int)) = (bitF s x : Int) := by
  have h1 := Int.emod_nonneg x.2.2.1 (b := 8 * (s.size : Int)) (by omega)
  unfold bitF; omega
def flipF (s : ByteArray) (x : Fa) : ByteArray := if s.size = 0 then ByteArray.empty else flipS s (bitF s x / 8) (bitF s x % 8)
theorem empty_of_size {s : ByteArray} (h : s.size = 0) : s = ByteArray.empty := by
  cases s with
  | mk d =>
    have : d.size = 0 := h
    rw [Array.eq_empty_of_size_eq_zero this]; rfl
theorem text_fullF {q : ByteArray} (h : ¬ q = ByteArray.empty) : q.toList.isEmpty = false := by
  rw [ByteArray.toList_eq]
  cases hq : q.data.toList with
  | nil =>
    exfalso
    apply h
    obtain ⟨d⟩ := q
    simp at hq
    subst hq
    rfl
  | cons => rfl
theorem fa_turned (s : ByteArray) (k : Nat) (w : World) (hm : s.size ≤ 1000) (hk : k / 8 < s.size) :
    Calls Tryz.prog 85 #[.string s, .int .i64 k] w fun e w' => e = .returned (.tuple #[.string (flipS s (k / 8) (k % 8)), .int .i64 0]) ∧ Below w.heap.size w w' := by
  have h := flip_yes s (k / 8) (k % 8) w hm hk (by omega)
  rwa [show 8 * ((k / 8 : Nat) : Int) + ((k % 8 : Nat) : Int) = (k : Int) by omega] at h
theorem fa_flipped (s : ByteArray) (x : Fa) (w : World) (hm : s.size ≤ 1000) :
    Calls Tryz.prog 40 #[.string s, .agg (encF x).toArray] w fun e w' => e = .returned (.string (flipF s x)) ∧ Below w.heap.size w w' := by
  obtain ⟨x1, x2, x3, x4⟩ := x
  simp only [encF]
  unfold flipF
  by_cases h0 : s.size = 0
  · rw [if_pos h0, empty_of_size h0]
    go_enter Tryz.func40, Tryz.ntmps40
    go_wp2
    go_ret
    exact ⟨rfl, (Below.refl _ _).alloc (Nat.le_refl _) _⟩
  · rw [if_neg h0]
    have hb := bitF_lt s (x1, x2, x3, x4) (by omega)
    have hi := bitF_int s (x1, x2, x3, x4) (by omega)
    have hr := fa_rest x3 (8 * (s.size : Int))
    obtain ⟨q, hq⟩ : ∃ q, bitF s (x1, x2, x3, x4) = q := ⟨_, rfl⟩
    rw [hq] at hb hi ⊢
    simp only at hi
    have HI : Hid (x3 % (8 * (s.size : Int)) = (q : Int)) := hi
    have hne : ¬ s = ByteArray.empty := fun e => h0 (by rw [e]; rfl)
    have hemp := text_fullF hne
    clear hq hi
    go_enter Tryz.func40, Tryz.ntmps40
    go_wp2_with fail
    refine (hr _ (by omega) (by omega)).mono ?_
    rintro r w1 ⟨rfl, rfl⟩
    rw [HI.out]
    clear hr
    go_wp2_with fail
    refine (fa_turned s q _ hm (by omega)).mono ?_
    rintro r w1 ⟨rfl, hb1⟩
    have HB1 : Hid (Below w.heap.size w w1) := ((Below.refl _ w).alloc (Nat.le_refl _) _).trans (hb1.mono (by simp))
    clear hb1
    go_wp2
    go_ret
    exact ⟨rfl, HB1.out⟩
end Go.Proofs.YtlijndkpgmbapaaGreatDoor

/- Package fault, walked: slices of faults; which of them an operation meets. -/
namespace Go.Proofs.YtlijndkpgmbapaaGreatDoor
set_option maxRecDepth 100000
open Go.RowKit Go.Shelf Go.Proofs

/-- a slice of faults, wherever it lies -/
def FsAt (w : World) (oa : Option Addr) (l : List Fa) : Prop := l ≠ [] → ∃ b off, oa = some ⟨b, off, none⟩ ∧ b < w.heap.size ∧ ∀ i (hi : i < l.length), w.rangeAt b (off + i * 4) (encF l[i])
theorem FsAt.below {w w' : World} {oa : Option Addr} {l : List Fa} (h : FsAt w oa l) (hb : Below w.heap.size w w') : FsAt w' oa l := by
  intro hl
  obtain ⟨b, off, ho, hlt, hc⟩ := h hl
  refine ⟨b, off, ho, Nat.lt_of_lt_of_le hlt hb.size, fun i hi j v hj => ?_⟩
  rw [World.cell?_of_block (w := w) (hb.block b hlt)]
  exact hc i hi j v hj
theorem FsAt.nil (w : World) (oa : Option Addr) : FsAt w oa [] := fun h => absurd rfl h
theorem size_faF : (Tryz.prog.info? 40).map (·.size) = some 4 := by kernel_rfl
theorem encF_all (x : Fa) : (encF x).toArray.all (·.oneCell') = true := by
  rw [Array.all_eq_true_iff_forall_mem]
  intro v hv
  exact encF_one x v (by simpa using hv)
def f0 : Fa := (0, 0, 0, 0)

def hitB (t op : Int) (x : Fa) : Bool := decide (x.1 = t) && fitsB x.2.1 op
theorem pred_meets (t op : Int) (B1 B2 : Nat) (w : World) (h1 : B1 < w.heap.size) (h2 : B2 < w.heap.size) (c1 : w.cell? ⟨B1, 0, none⟩ = some (.int .i64 t)) (c2 : w.cell? ⟨B2, 0, none⟩ = some (.int .i64 op)) :
    PredBelow Tryz.prog 125 #[.pointer (some ⟨B1, 0, none⟩), .pointer (some ⟨B2, 0, none⟩)] (fun x => .agg (encF x).toArray) (hitB t op) w := fun W x hb => by
  obtain ⟨x1, x2, x3, x4⟩ := x
  have d1 : W.cell? ⟨B1, 0, none⟩ = some (.int .i64 t) := (hb.cell (p := ⟨B1, 0, none⟩) h1).trans c1
  have d2 : W.cell? ⟨B2, 0, none⟩ = some (.int .i64 op) := (hb.cell (p := ⟨B2, 0, none⟩) h2).trans c2
  have l1 : B1 < W.heap.size := Nat.lt_of_lt_of_le h1 hb.size
  have l2 : B2 < W.heap.size := Nat.lt_of_lt_of_le h2 hb.size
  have n1 : B1 ≠ W.heap.size := by omega
  have n2 : B2 ≠ W.heap.size := by omega
  have HB : Hid (Below w.heap.size w W) := hb
  unfold hitB
  show Calls Tryz.prog 125 #[.agg #[.int .i64 x1, .int .i64 x2, .int .i64 x3, .int .i64 x4], .pointer (some ⟨B1, 0, none⟩), .pointer (some ⟨B2, 0, none⟩)] W _
  clear c1 c2 h1 h2 hb
  by_cases ht : x1 = t
  · have htb : (x1 == t) = true := by simpa using ht
    have htd : decide (x1 = t) = true := by simpa using ht
    have HT : Hid (x1 = t) := ht
    simp only [htd]
    clear ht
    go_enter Tryz.func125, Tryz.ntmps125
    go_wp2_with fail
    refine (fa_fits _ _ _).mono ?_
    rintro r w1 ⟨rfl, rfl⟩
    go_wp2_with fail
    go_ret
    exact ⟨by simp, HB.out.alloc HB.out.size _⟩
  · have htb : (x1 == t) = false := by simpa using ht
    have htd : decide (x1 = t) = false := by simpa using ht
    simp only [htd]
    go_enter Tryz.func125, Tryz.ntmps125
    go_wp2
    go_ret
    exact ⟨by simp, HB.out.alloc HB.out.size _⟩

theorem idx_find (p : Fa → Bool) (l : List Fa) : (l.find? p = none ∧ Lib.idxBy (fun _ y => p y) (l.take l.length) default = -1) ∨ ∃ j, ∃ hj : j < l.length, l.find? p = some l[j] ∧ p l[j] = true ∧ Lib.idxBy (fun _ y => p y) (l.take l.length) default = (j : Int) := by
  cases h : l.find? p with
  | none =>
    refine Or.inl ⟨rfl, Lib.idxBy_miss (fun _ y => p y) l l.length default fun j hj => ?_⟩
    have := List.find?_eq_none.1 h l[j] (List.getElem_mem hj)
    rw [getElem!_pos l j hj]
    simpa using this
  | some b =>
    obtain ⟨h1, j, hj, hb, hm⟩ := List.find?_eq_some_iff_getElem.1 h
    refine Or.inr ⟨j, hj, by rw [hb], by rw [hb]; exact h1, Lib.idxBy_hit (fun _ y => p y) l l.length j default hj (Nat.le_refl _) ?_ fun i hi => ?_⟩
    · show p l[j]! = true
      rw [getElem!_pos l j hj, hb]; exact h1
    · show p l[i]! = false
      rw [getElem!_pos l i (by omega)]
      simpa using hm i hi

/-- what an operation meets -/
def meetF (l : List Fa) (t op : Int) : Option Fa := l.find? (hitB t op)
def meetV (o : Option Fa) : Array Value := #[.agg (encF (o.getD f0)).toArray, .bool o.isSome]

/-- slices.IndexFunc of these faults, the empty slice too -/
theorem fa_index (p : Fa → Bool) (g : Nat) (lb : Array Value) (eg : ∀ args w, (callFunc g args).run Tryz.prog w = .ok (.enter g args) w) (oa : Option Addr) (cap : Nat) (l : List Fa) (hl : l.length ≤ maxLen) (w : World) (ha : FsAt w oa l)
    (hp : PredBelow Tryz.prog g lb (fun x => .agg (encF x).toArray) p w) :
    Calls Tryz.prog 124 #[.slice oa l.length cap, .func (.func g) #[] lb] w fun e w' => e = .returned (.int .i64 (Lib.idxBy (fun _ y => p y) (l.take l.length) default)) ∧ Below w.heap.size w w' := by
  by_cases h0 : l = []
  · subst h0
    show Calls Tryz.prog _ #[.slice oa 0 cap, .func (.func g) #[] lb] w fun e w' => e = .returned (.int .i64 (-1)) ∧ Below w.heap.size w w'
    clear ha hp
    go_enter Tryz.func124, Tryz.ntmps124
    go_wp2
    refine wp_loop_rounds 1 ?_
    rw [rounds_succ]
    go_wp2
    go_ret
    exact ⟨rfl, Below.refl _ _⟩
  · obtain ⟨b, off, rfl, hb, hc⟩ := ha h0
    have h := AnyQ.slices_IndexFunc Tryz.idxf 4 Tryz.isAgg40 Tryz.sizeOf40 encF encF_len p g lb eg b off l.length cap l w hp (Nat.le_refl _) (by unfold maxLen at hl; omega) hb (fun j hj i v hv => by
      rw [getElem!_pos l j hj] at hv
      exact hc j hj i v hv)
    exact h

set_option maxHeartbeats 1000000 in
theorem fa_meets (oa : Option Addr) (cap : Nat) (l : List Fa) (hl : l.length ≤ maxLen) (t op : Int) (w : World) (ha : FsAt w oa l) :
    Calls Tryz.prog 82 #[.slice oa l.length cap, .int .i64 t, .int .i64 op] w fun e w' => e = .returned (.tuple (meetV (meetF l t op))) ∧ Below w.heap.size w w' := by
  have eg : ∀ args w, (callFunc 125 args).run Tryz.prog w = .ok (.enter 125 args) w := enters_of Tryz.func125 (by kernel_rfl) rfl
  obtain ⟨w3, hw3⟩ : ∃ w3, ((w.alloc (.cells #[.int .i64 t] 3)).alloc (.cells #[.int .i64 op] 3)).alloc (.cells (encF f0).toArray 40) = w3 := ⟨_, rfl⟩
  have b3 : Below w.heap.size w w3 := by rw [← hw3]; exact (((Below.refl _ w).alloc (Nat.le_refl _) _).alloc (by simp) _).alloc (by simp; omega) _
  have k3 : Blk w3 (w.heap.size + 1 + 1) (encF f0).toArray 40 := by
    rw [← hw3]
    have := Blk.new ((w.alloc (.cells #[.int .i64 t] 3)).alloc (.cells #[.int .i64 op] 3)) (encF f0).toArray 40
    simpa using this
  have k1 : Blk w3 w.heap.size #[.int .i64 t] 3 := by rw [← hw3]; exact ((Blk.new w _ _).alloc _).alloc _
  have k2 : Blk w3 (w.heap.size + 1) #[.int .i64 op] 3 := by
    rw [← hw3]
    have := (Blk.new (w.alloc (.cells #[.int .i64 t] 3)) #[.int .i64 op] 3).alloc (.cells (encF f0).toArray 40)
    simpa using this
  have hp := pred_meets t op w.heap.size (w.heap.size + 1) w3 k1.lt k2.lt (k1.cell 0) (k2.cell 0)
  have hcon := fa_index (hitB t op) 125 _ eg oa cap l hl w3 (ha.below b3) hp
  have B3 := Lib.hid b3
  have K3 := Lib.hid k3
  have HW := Lib.hid hw3
  have HA := Lib.hid ha
  have hl2 : (l.length : Int) ≤ 9223372036854775807 := by unfold maxLen at hl; omega
  clear b3 k3 k1 k2 hw3 ha hp eg hl
  unfold meetF
  rcases idx_find (hitB t op) l with ⟨hn, hi⟩ | ⟨j, hj, hn, _, hi⟩
  · rw [hi] at hcon
    rw [hn]
    clear hi hn
    go_enter Tryz.func82, Tryz.ntmps82
    go_wp2_with fail
    change Calls _ _ _ (((w.alloc (.cells #[.int .i64 t] 3)).alloc (.cells #[.int .i64 op] 3)).alloc (.cells (encF f0).toArray 40)) _
    rw [HW.out]
    refine hcon.mono ?_
    rintro r w4 ⟨rfl, hb4⟩
    have HB4 := Lib.hid (B3.out.trans (hb4.mono B3.out.size))
    have K4 := Lib.hid (K3.out.after hb4)
    clear hb4 hcon
    go_wp2_with (refine wpList_store_row rfl 40 (.tmp 6) (.tmp 14) rfl (w.heap.size + 1 + 1) (encF f0).toArray rfl rfl 40 (encF f0).toArray K4.out size_faF rfl (encF_all _) ?_)
    exact bodyPost_ret (results_cell_tmp (P := Tryz.prog) rfl _ _ (w.heap.size + 1 + 1) 40 (encF f0).toArray _ rfl (K4.out.put _) Tryz.underlying40 rfl size_faF) rfl ⟨rfl, below_put (by omega) _ HB4.out⟩
  · rw [hi] at hcon
    rw [hn]
    have hl0 : l ≠ [] := fun e => by rw [e] at hj; exact absurd hj (Nat.not_lt_zero j)
    obtain ⟨b, off, rfl, hb, hc⟩ := HA.out hl0
    have hr : w.rangeAt b (off + j * 4) (encF l[j]) := hc j hj
    obtain ⟨n, hn2⟩ : ∃ n, l.length = n := ⟨_, rfl⟩
    rw [hn2] at hj hcon hl2 ⊢
    have hji : (j : Int) < (n : Int) := by omega
    generalize l[j] = x at hr ⊢
    have HR := Lib.hid hr
    have HN := Lib.hid hn2
    clear hi hn hc hr hn2 hl0 HA
    go_enter Tryz.func82, Tryz.ntmps82
    go_wp2_with fail
    change Calls _ _ _ (((w.alloc (.cells #[.int .i64 t] 3)).alloc (.cells #[.int .i64 op] 3)).alloc (.cells (encF f0).toArray 40)) _
    rw [HW.out]
    refine hcon.mono ?_
    rintro r w4 ⟨rfl, hb4⟩
    have HB4 := Lib.hid (B3.out.trans (hb4.mono B3.out.size))
    have K4 := Lib.hid (K3.out.after hb4)
    have HR4 : Hid (w4.rangeAt b (off + j * 4) (encF x)) := fun i v hv => by
      rw [World.cell?_of_block (w := w) (HB4.out.block b hb)]; exact HR.out i v hv
    clear hb4 hcon
    go_wp2_with (first
      | (refine wpList_load_mid rfl 40 (.tmp 17) rfl b (off + j * 4) rfl (encF x) _ HR4.out Tryz.underlying40 rfl size_faF ?_)
      | (refine wpList_store_row rfl 40 (.tmp 6) (.tmp 18) rfl (w.heap.size + 1 + 1) (encF x).toArray rfl rfl 40 (encF f0).toArray K4.out size_faF rfl (encF_all _) ?_))
    exact bodyPost_ret (results_cell_tmp (P := Tryz.prog) rfl _ _ (w.heap.size + 1 + 1) 40 (encF x).toArray _ rfl (K4.out.put _) Tryz.underlying40 rfl size_faF) rfl ⟨rfl, below_put (by omega) _ HB4.out⟩

end Go.Proofs.YtlijndkpgmbapaaGreatDoor

/- Package fault and its reference, walked: how many of a kind come ahead of an operation; the reference's Meets; the chapter's example. -/
namespace Go.Proofs.YtlijndkpgmbapaaGreatDoor
set_option maxRecDepth 100000
open Go.RowKit Go.Shelf Go.Proofs

end Go.Proofs.YtlijndkpgmbapaaGreatDoor

/- A chip: what the document asks of it, as a state and what each operation makes of it; how the reference keeps it. -/
namespace Go.Proofs.YtlijndkpgmbapaaGreatDoor
set_option maxRecDepth 100000
open Go.RowKit

/-- a geometry -/
structure Gm where
  b : Int
  l : Int
  y : Int
  n : Int
  s : Int
  r : Int
/-- a chip -/
structure ChS where
  G : Gm
  cs : List St
  fs : List Fa
  ops : Nat
  cuts : Nat
  rej : Nat
  off : Bool
  shk : Bool
  a : Int
  b : Int

def chHas (c : ChS) (block : Int) : Prop := 0 ≤ block ∧ block < c.cs.length
instance (c : ChS) (block : Int) : Decidable (chHas c block) := by unfold chHas; infer_instance
/-- how an operation goes -/
def howF (c : ChS) (op : Int) : Fa := (meetF c.fs c.ops op).getD f0
def opSt (s : St) (op line : Int) (p q r : ByteArray) (f : Fa) : St :=
  if op = 2 then progSt s line p f.2.1 f.2.2.1 f.2.2.2 else if op = 3 then twoSt s line p q r false f.2.1 f.2.2.1 f.2.2.2 else if op = 4 then twoSt s line p q r true f.2.1 f.2.2.1 f.2.2.2 else eraseSt s f.2.1 f.2.2.1 f.2.2.2
def opC (s : St) (op line : Int) (p q r : ByteArray) (f : Fa) : Int :=
  if op = 2 then progC s line p f.2.1 else if op = 3 then twoC s line p q r false f.2.1 else if op = 4 then twoC s line p q r true f.2.1 else eraseC s f.2.1
/-- a chip behind an answer -/
def endCh (c : ChS) (e : Int) : ChS := if e = 80 then { c with rej := c.rej + 1 } else if e = 82 then { c with off := true, cuts := c.cuts + 1 } else c
def opsCh (c : ChS) : ChS := { c with ops := c.ops + 1 }
def setCh (c : ChS) (i : Nat) (s : St) : ChS := { c with cs := c.cs.set i s }
def calmCh (c : ChS) : ChS := { c with shk := false }
def cellOf (c : ChS) (block : Int) : St := c.cs.getD block.toNat (newSt 0 0)
def doSt (c : ChS) (op block line : Int) (p q r : ByteArray) : ChS :=
  if c.off = true then c else if chHas c block then endCh (setCh (opsCh c) block.toNat (opSt (cellOf c block) op line p q r (howF c op))) (opC (cellOf c block) op line p q r (howF c op)) else endCh (opsCh c) 80
def doC (c : ChS) (op block line : Int) (p q r : ByteArray) : Int :=
  if c.off = true then 82 else if chHas c block then opC (cellOf c block) op line p q r (howF c op) else 80
def ReadsCh (c : ChS) (block line part : Int) : Prop := c.off = false ∧ chHas c block ∧ ReadOk (cellOf c block) line part
instance (c : ChS) (block line part : Int) : Decidable (ReadsCh c block line part) := by unfold ReadsCh; infer_instance
def rdSt (c : ChS) (block line part : Int) : ChS :=
  if c.off = true then c else if ReadsCh c block line part then (if (howF c 1).2.1 = 1 then endCh (opsCh c) 82 else calmCh (opsCh c)) else endCh (opsCh c) 80
def rdC (c : ChS) (block line part : Int) : Int :=
  if c.off = true then 82 else if ReadsCh c block line part then (if (howF c 1).2.1 = 1 then 82 else 0) else 80
def flipCh (c : ChS) (p : ByteArray) : ByteArray := if (howF c 1).2.1 = 3 then flipF p (howF c 1) else p
def shakeCh (c : ChS) (p : ByteArray) : ByteArray := if c.shk = true then hurtT p c.a c.b else p
def rdT (c : ChS) (block line part : Int) : ByteArray :=
  if ReadsCh c block line part ∧ ¬ (howF c 1).2.1 = 1 then shakeCh c (flipCh c (atT (cellOf c block) (3 * line.toNat + part.toNat))) else ByteArray.empty

/-- a chip that can be, of which no count is above n -/
structure WfCh (n : Nat) (c : ChS) : Prop where
  cells : ∀ s ∈ c.cs, WfSt s ∧ s.slc ≤ n ∧ s.tlc ≤ n
  ops : c.ops ≤ n
  cuts : c.cuts ≤ n
  rej : c.rej ≤ n
  many : c.cs.length ≤ 1000
  fs : c.fs.length ≤ maxLen

/-- a cell as the reference keeps it: its state, and where its pages and marks lie -/
structure RC where
  s : St
  g : Nat
  c : Nat
  h : Nat
  d : Nat
def encR (x : RC) : List Value := (cv x.s x.g x.c x.h x.d).toList
/-- a slice of cells, wherever it lies -/
def CsAt (w : World) (oa : Option Addr) (l : List RC) : Prop := l ≠ [] → ∃ b off, oa = some ⟨b, off, none⟩ ∧ b < w.heap.size ∧ ∀ i (hi : i < l.length), w.rangeAt b (off + i * 10) (encR l[i])
theorem CsAt.below {w w' : World} {oa : Option Addr} {l : List RC} (h : CsAt w oa l) (hb : Below w.heap.size w w') : CsAt w' oa l := by
  intro hl
  obtain ⟨b, off, ho, hlt, hc⟩ := h hl
  exact ⟨b, off, ho, Nat.lt_of_lt_of_le hlt hb.size, fun i hi j v hj => by rw [World.cell?_of_block (w := w) (hb.block b hlt)]; exact hc i hi j v hj⟩
theorem CsAt.nil (w : World) (oa : Option Addr) : CsAt w oa [] := fun h => absurd rfl h
/-- all of them lie in this world -/
def RsAt (w : World) (l : List RC) : Prop := ∀ x ∈ l, WfSt x.s ∧ RAt w x.s x.g x.c x.h x.d
theorem RsAt.after {w w' : World} {l : List RC} (h : RsAt w l) (hb : Below w.heap.size w w') : RsAt w' l := fun x hx => ⟨(h x hx).1, (h x hx).2.after (h x hx).1 hb⟩
/-- the reference's chip -/
structure RCh (w : World) (c : ChS) (oc : Option Addr) (of : Option Addr) (l : List RC) : Prop where
  same : l.map (·.s) = c.cs
  row : CsAt w oc l
  all : RsAt w l
  fs : FsAt w of c.fs
theorem RCh.after {w w' : World} {c : ChS} {oc of : Option Addr} {l : List RC} (h : RCh w c oc of l) (hb : Below w.heap.size w w') : RCh w' c oc of l :=
  ⟨h.same, h.row.below hb, h.all.after hb, h.fs.below hb⟩
theorem RCh.len {w : World} {c : ChS} {oc of : Option Addr} {l : List RC} (h : RCh w c oc of l) : l.length = c.cs.length := by rw [← h.same, List.length_map]
end Go.Proofs.YtlijndkpgmbapaaGreatDoor

/- Package frame, walked: what its parts ask of numbers; Hurt; Blank. -/
namespace Go.Proofs.YtlijndkpgmbapaaGreatDoor
set_option maxRecDepth 100000
open Go.RowKit

theorem fr_data (n : Int) (w : World) : Calls Tryz.prog 106 #[.int .i64 n] w fun r w' => r = .returned (.bool (decide (8 ≤ n ∧ n ≤ 256 ∧ n % 8 = 0))) ∧ w = w' := by
  go_enter Tryz.func106, Tryz.ntmps106
  go_wp2
  all_goals go_ret
  all_goals exact ⟨ret_bool (by rw [Bool.eq_iff_iff]; simp; try omega), rfl⟩
theorem fr_onChip (n : Int) (w : World) (h0 : 0 ≤ n) (h1 : n ≤ 1000) : Calls Tryz.prog 109 #[.int .i64 n] w fun r w' => r = .returned (.int .i64 ((n + 24) / 8 * 9)) ∧ w = w' := by
  go_enter Tryz.func109, Tryz.ntmps109
  go_wp2
  go_ret
  exact ⟨rfl, rfl⟩
theorem fr_rest (n by' : Int) (w : World) (h0 : 0 < by') (h1 : by' ≤ 1000) : Calls Tryz.prog 129 #[.int .i64 n, .int .i64 by'] w fun r w' => r = .returned (.int .i64 (n % by')) ∧ w = w' := by
  have hm := Int.tmod_eq_emod (a := n) (b := by')
  have hlt := Int.emod_lt_of_pos n h0
  have hge := Int.emod_nonneg n (b := by') (by omega)
  have hab : (by'.natAbs : Int) = by' := by omega
  obtain ⟨x, hx⟩ : ∃ x, n.tmod by' = x := ⟨_, rfl⟩
  obtain ⟨y, hy⟩ : ∃ y, n % by' = y := ⟨_, rfl⟩
  rw [hx, hy] at hm
  rw [hy] at hlt hge ⊢
  have hb' : by' ≠ 0 := by omega
  have hxy : x = y ∨ x = y - by' := by
    by_cases hc : 0 ≤ n ∨ by' ∣ n
    · rw [if_pos hc] at hm; omega
    · rw [if_neg hc, hab] at hm; omega
  have hlo : -1000 ≤ x := by omega
  have hhi : x ≤ 1000 := by omega
  have hz : (x + by').tmod by' = y := by
    rw [Int.tmod_eq_emod_of_nonneg (by omega)]
    rcases hxy with rfl | rfl
    · rw [Int.add_emod_right, Int.emod_eq_of_lt hge hlt]
    · rw [show y - by' + by' = y by omega, Int.emod_eq_of_lt hge hlt]
  clear hm hxy
  go_enter Tryz.func129, Tryz.ntmps129
  go_wp2
  go_ret
  exact ⟨rfl, rfl⟩
theorem fr_turned (s : ByteArray) (k : Nat) (w : World) (hm : s.size ≤ 1000) (hk : k / 8 < s.size) :
    Calls Tryz.prog 130 #[.string s, .int .i64 k] w fun r w' => r = .returned (.string (flipS s (k / 8) (k % 8))) ∧ Below w.heap.size w w' := by
  have h := flip_yes s (k / 8) (k % 8) w hm hk (by omega)
  rw [show 8 * ((k / 8 : Nat) : Int) + ((k % 8 : Nat) : Int) = (k : Int) by omega] at h
  go_enter Tryz.func130, Tryz.ntmps130
  go_wp2_with fail
  refine h.mono ?_
  rintro r w1 ⟨rfl, hb1⟩
  have HB1 := Lib.hid hb1
  clear hb1 h
  go_wp2
  go_ret
  exact ⟨rfl, HB1.out⟩

theorem fr_hurt (s : ByteArray) (a b : Int) (w : World) (hs : s.size ≤ 1000) :
    Calls Tryz.prog 87 #[.string s, .int .i64 a, .int .i64 b] w fun r w' => r = .returned (.string (hurtT s a b)) ∧ Below w.heap.size w w' := by
  unfold hurtT
  by_cases h9 : s.size < 9
  · rw [if_pos h9]
    have h9i : (s.size : Int) < 9 := by omega
    go_enter Tryz.func87, Tryz.ntmps87
    go_wp2
    go_ret
    exact ⟨rfl, Below.refl _ _⟩
  · rw [if_neg h9]
    have h9i : ¬ (s.size : Int) < 9 := by omega
    obtain ⟨p, hp⟩ : ∃ p, first72 a = p := ⟨_, rfl⟩
    obtain ⟨q, hq⟩ : ∃ q, second72 a b = q := ⟨_, rfl⟩
    obtain ⟨m, hm⟩ : ∃ m : Nat, (b % 71).toNat = m := ⟨_, rfl⟩
    have hpa : a % 72 = (p : Int) := by rw [← hp]; unfold first72; omega
    have hmb : b % 71 = (m : Int) := by omega
    have hp72 : p < 72 := by omega
    have hm71 : m < 71 := by omega
    have hqe : q = (p + 1 + m) % 72 := by rw [← hq]; unfold second72; rw [hp, hm]
    have hqi : (((p : Int) + 1 + (m : Int)) % 72) = (q : Int) := by omega
    have hq72 : q < 72 := by omega
    rw [hp, hq]
    have HPA := Lib.hid hpa
    have HMB := Lib.hid hmb
    clear hp hq hm hpa hmb hqe
    go_enter Tryz.func87, Tryz.ntmps87
    go_wp2_with fail
    refine (fr_rest a 72 _ (by decide) (by decide)).mono ?_
    rintro r w' ⟨rfl, rfl⟩
    rw [HPA.out]
    go_wp2_with fail
    refine (fr_rest b 71 _ (by decide) (by decide)).mono ?_
    rintro r w' ⟨rfl, rfl⟩
    rw [HMB.out]
    go_wp2_with fail
    refine (fr_turned s p _ hs (by omega)).mono ?_
    rintro r w1 ⟨rfl, hb1⟩
    have HB1 := Lib.hid hb1
    have hz : (flipS s (p / 8) (p % 8)).size = s.size := flipS_size _ _ _ (by omega)
    obtain ⟨t, ht⟩ : ∃ t, flipS s (p / 8) (p % 8) = t := ⟨_, rfl⟩
    rw [ht] at hz ⊢
    have HT := Lib.hid ht
    clear ht hb1
    go_wp2_with fail
    refine (fr_turned t q _ (by omega) (by omega)).mono ?_
    rintro r w2 ⟨rfl, hb2⟩
    have HB2 := Lib.hid (HB1.out.trans (hb2.mono HB1.out.size))
    clear hb2
    go_wp2_with fail
    go_ret
    exact ⟨by rw [HT.out]; rfl, HB2.out⟩

theorem rep_ff (c : Nat) : (⟨(Lib.repeatL (⟨#[255]⟩ : ByteArray).data.toList c).toArray⟩ : ByteArray) = ⟨(List.replicate c 255).toArray⟩ := by
  have h : ∀ c, Lib.repeatL (⟨#[255]⟩ : ByteArray).data.toList c = List.replicate c 255 := fun c => by
    induction c with
    | zero => rfl
    | succ c ih => rw [List.replicate_succ, ← ih]; rfl
  rw [h]
theorem fr_blank (n : Int) (w : World) : Calls Tryz.prog 73 #[.int .i64 n] w fun r w' => r = .returned (.string (blankT n)) ∧ Below w.heap.size w w' := by
  unfold blankT
  by_cases hm : 0 ≤ n ∧ LenOk n.toNat
  · rw [if_pos hm]
    have HD : Hid (decide (8 ≤ n ∧ n ≤ 256 ∧ n % 8 = 0) = true) := by obtain ⟨h0, h1, h2, h3⟩ := hm; exact decide_eq_true (by omega)
    obtain ⟨h0, h1, h2, h3⟩ := hm
    obtain ⟨c, hc⟩ : ∃ c, (n.toNat + 24) / 8 * 9 = c := ⟨_, rfl⟩
    have HC : Hid ((n + 24) / 8 * 9 = (c : Int)) := by show (n + 24) / 8 * 9 = (c : Int); omega
    have hc400 : c ≤ 400 := by omega
    have HB : Hid (blankS n.toNat = ⟨(List.replicate c 255).toArray⟩) := by unfold blankS; rw [hc]; exact rfl
    have hn256 : n ≤ 256 := by omega
    clear hc h1 h2 h3
    go_enter Tryz.func73, Tryz.ntmps73
    go_wp2_with fail
    refine (fr_data n _).mono ?_
    rintro r w' ⟨rfl, rfl⟩
    rw [HD.out]
    go_wp2_with fail
    refine (fr_onChip n _ h0 (by omega)).mono ?_
    rintro r w' ⟨rfl, rfl⟩
    rw [HC.out]
    go_wp2_with fail
    refine (Any.strings_Repeat Tryz.lays105 Tryz.Builder_Extra_105 _ c _ (by omega) (by show 1 * c ≤ _; omega)).mono ?_
    rintro r w1 ⟨rfl, hb1⟩
    rw [rep_ff]
    have HB1 := Lib.hid hb1
    clear hb1
    go_wp2_with fail
    go_ret
    exact ⟨by rw [HB.out]; rfl, HB1.out⟩
  · rw [if_neg hm]
    have HD : Hid (decide (8 ≤ n ∧ n ≤ 256 ∧ n % 8 = 0) = false) := decide_eq_false (fun h => hm ⟨by omega, by omega, by omega, by omega⟩)
    clear hm
    go_enter Tryz.func73, Tryz.ntmps73
    go_wp2_with fail
    refine (fr_data n _).mono ?_
    rintro r w' ⟨rfl, rfl⟩
    rw [HD.out]
    go_wp2_with fail
    go_ret
    exact ⟨rfl, Below.refl _ _⟩

end Go.Proofs.YtlijndkpgmbapaaGreatDoor

/- Package cell, walked: how a cell lies in memory; a line that is hurt. -/
namespace Go.Proofs.YtlijndkpgmbapaaGreatDoor
set_option maxRecDepth 100000
open Go.RowKit

/-- a cell's cells; a line's -/
def cc (L g cap : Nat) (bl : ByteArray) (m : Int) (d sl tl : Nat) (b t : Bool) : Array Value := #[.slice (some ⟨g, 0, none⟩) L cap, .string bl, .int .i64 m, .int .i64 d, .int .i64 sl, .int .i64 tl, .bool b, .bool t]
def lnL (l : Ln) : List Value := [.string l.p, .string l.q, .string l.r, .bool l.h]
def lv (l : Ln) : Array Value := #[.string l.p, .string l.q, .string l.r, .bool l.h]
theorem lv_one (l : Ln) : (lv l).all (·.oneCell') = true := by
  rw [Array.all_eq_true_iff_forall_mem]
  intro v hv
  simp [lv] at hv
  rcases hv with rfl | rfl | rfl | rfl <;> rfl
theorem lnL_one (l : Ln) : ∀ v ∈ lnL l, v.oneCell' = true := by
  intro v hv
  simp [lnL] at hv
  rcases hv with rfl | rfl | rfl | rfl <;> rfl
theorem size_line : (Tryz.prog.info? 121).map (·.size) = some 4 := by kernel_rfl
theorem size_code : (Tryz.prog.info? 113).map (·.size) = some 8 := by kernel_rfl

theorem setCells_heap_ne (b k : Nat) (hne : k ≠ b) : ∀ (vs : List Value) (o : Nat) (w : World), (w.setCells b o vs).heap[k]? = w.heap[k]?
  | [], _, _ => rfl
  | v :: r, o, w => by
    rw [World.setCells, setCells_heap_ne b k hne r (o + 1) _]
    exact Below.heap_setCell _ _ _ _ hne
theorem Only.setCell {F : Nat → Prop} {w w' : World} (h : Only F w w') (p : Addr) (u : Value) (hp : F p.block) : Only F w (w'.setCell p u) :=
  ⟨h.os, h.tape, h.output, by rw [World.size_setCell]; exact h.size, fun k hk hn => (Below.heap_setCell _ _ _ _ (fun e => hn (by rw [e]; exact hp))).trans (h.block k hk hn)⟩
theorem Only.setCells {F : Nat → Prop} {w : World} (b : Nat) (hb : F b) : ∀ (vs : List Value) (o : Nat) (w' : World), Only F w w' → Only F w (w'.setCells b o vs)
  | [], _, _, h => h
  | v :: r, o, w', h => by
    rw [World.setCells]
    exact Only.setCells b hb r (o + 1) _ (h.setCell ⟨b, o, none⟩ v hb)
theorem Only.drew {F : Nat → Prop} {w w' : World} (h : Only F w w') : Only F w w'.drew := ⟨h.os, h.tape, h.output, h.size, h.block⟩
theorem Only.drewN {F : Nat → Prop} {w w' : World} {n : Nat} (h : Only F w w') : Only F w (w'.drewN n) := ⟨h.os, h.tape, h.output, h.size, h.block⟩
theorem Only.weak {F G : Nat → Prop} {w w' : World} (h : Only F w w') (hF : ∀ k, F k → G k) : Only G w w' := ⟨h.os, h.tape, h.output, h.size, fun k hk hn => h.block k hk fun hf => hn (hF k hf)⟩

/-- block g holds these lines, which may be written -/
def LnsAt (w : World) (g : Nat) (ls : List Ln) : Prop := ∀ i, i < ls.length → w.rangeAt g (i * 4) (lnL (lnAt ls i)) ∧ w.there g (i * 4) 4
theorem LnsAt.keep {w w' : World} {g : Nat} {ls : List Ln} (h : LnsAt w g ls) (hg : w'.heap[g]? = w.heap[g]?) : LnsAt w' g ls := by
  intro i hi
  obtain ⟨h1, h2⟩ := h i hi
  refine ⟨fun j v hj => ?_, fun j hj => ?_⟩
  · rw [World.cell?_of_block (w := w) hg]; exact h1 j v hj
  · rw [World.cell?_of_block (w := w) hg, World.frozen?_of_block (w := w) hg]; exact h2 j hj
theorem LnsAt.lt {w : World} {g : Nat} {ls : List Ln} (h : LnsAt w g ls) (h0 : 0 < ls.length) : g < w.heap.size := by
  have h1 := (h 0 h0).1 0 _ rfl
  exact cell_lt h1
theorem LnsAt.after {w w' : World} {g : Nat} {ls : List Ln} (h : LnsAt w g ls) (hb : Below w.heap.size w w') : LnsAt w' g ls := by
  intro i hi
  exact (h.keep (hb.block g (h.lt (by omega)))) i hi
theorem LnsAt.only {F : Nat → Prop} {w w' : World} {g : Nat} {ls : List Ln} (h : LnsAt w g ls) (ho : Only F w w') (hg : ¬ F g) : LnsAt w' g ls := by
  intro i hi
  exact (h.keep (ho.block g (h.lt (by omega)) hg)) i hi
theorem LnsAt.set {w : World} {g : Nat} {ls : List Ln} (h : LnsAt w g ls) (i : Nat) (l : Ln) (hi : i < ls.length) : LnsAt (w.setCells g (i * 4) (lnL l)) g (ls.set i l) := by
  intro k hk
  have hk' : k < ls.length := by simpa using hk
  rw [lnAt_set ls i k l hi]
  have ht : w.there g (i * 4) (lnL l).length := (h i hi).2
  refine ⟨?_, World.there_setCells (h k hk').2 g (i * 4) (lnL l)⟩
  by_cases e : k = i
  · subst e
    rw [if_pos rfl]
    exact World.rangeAt_setCells_same w g (k * 4) (lnL l) ht
  · rw [if_neg e]
    refine World.rangeAt_setCells_apart (h k hk').1 g (i * 4) (lnL l) (Or.inr ?_)
    show k * 4 + 4 ≤ i * 4 ∨ i * 4 + 4 ≤ k * 4
    omega
theorem LnsAt.range {w : World} {g : Nat} {ls : List Ln} (h : LnsAt w g ls) {i : Nat} (hi : i < ls.length) : w.rangeAt g (i * 4) (lnL (lnAt ls i)) := (h i hi).1
theorem LnsAt.pages {w : World} {g : Nat} {ls : List Ln} (h : LnsAt w g ls) {i : Nat} (hi : i < ls.length) : w.rangeAt g (i * 4) [.string (lnAt ls i).p, .string (lnAt ls i).q, .string (lnAt ls i).r] := by
  intro j v hj
  refine (h i hi).1 j v ?_
  match j, hj with
  | 0, hj => exact hj
  | 1, hj => exact hj
  | 2, hj => exact hj

/-- a page of three -/
theorem info_str : (Tryz.prog.info? 9).map (fun i => (i.size, i.zero)) = some (1, some (.string ByteArray.empty)) := by kernel_rfl
theorem index_three (p q r : ByteArray) (n : Nat) (hn : n < 3) (w : World) : (Instr.index 38 (.agg #[.string p, .string q, .string r]) (.int .i64 (n : Int))).run Tryz.prog w = .ok (.string (pgN p q r n)) w := by
  have hu : Tryz.prog.underlying 38 = some (.array 3 9) := by kernel_rfl
  obtain ⟨i, hi, hzz⟩ := Option.map_eq_some_iff.1 info_str
  simp only [Prod.mk.injEq] at hzz
  have hz1 := hzz.1
  simp [Instr.index, asIntOf, run_underlying hu, hn, part, sizeOf, typeInfo, hi, hz1, isAgg, run_underlying Tryz.underlying9, go_sem]
  match n, hn with
  | 0, _ => rfl
  | 1, _ => rfl
  | 2, _ => rfl
set_option maxHeartbeats 1000000 in
theorem ce_hurtBy (l : Ln) (a b : Int) (w : World) (hs : ∀ t, (l.pt t).size ≤ 400) :
    Calls Tryz.prog 104 #[.agg (lv l), .int .i64 a, .int .i64 b] w fun e w' => e = .returned (.agg (lv (hurtL l a b))) ∧ Below w.heap.size w w' := by
  obtain ⟨w1, hw1⟩ : ∃ w1, (w.alloc (.cells (lv l) 121)).alloc (.cells (lv l0) 121) = w1 := ⟨_, rfl⟩
  have hb1 : Below w.heap.size w w1 := by rw [← hw1]; exact ((Below.refl _ _).alloc (Nat.le_refl _) _).alloc (by simp) _
  have hk1 : Blk w1 w.heap.size (lv l) 121 := by rw [← hw1]; exact (Blk.new w _ _).alloc _
  have hk2 : Blk w1 (w.heap.size + 1) (lv l0) 121 := by
    rw [← hw1]
    have := Blk.new (w.alloc (.cells (lv l) 121)) (lv l0) 121
    rw [World.size_alloc] at this
    exact this
  obtain ⟨p, q, r, h⟩ := l
  have hp : p.size ≤ 1000 := by have := hs 0; show p.size ≤ 1000; exact Nat.le_trans this (by decide)
  have hq : q.size ≤ 1000 := by have := hs 1; exact Nat.le_trans this (by decide)
  have hr : r.size ≤ 1000 := by have := hs 2; exact Nat.le_trans this (by decide)
  have HB1 := Lib.hid hb1
  have HK1 := Lib.hid hk1
  have HK2 := Lib.hid hk2
  have HW1 := Lib.hid hw1
  have HP := Lib.hid hp
  have HQ := Lib.hid hq
  have HR := Lib.hid hr
  clear hb1 hk1 hk2 hw1 hs hp hq hr
  cases h with
  | true =>
    unfold lv l0 at *
    go_enter Tryz.func104, Tryz.ntmps104
    go_wp2_with (first
      | (change wpList _ _ _ _ _ ((w.alloc (.cells #[.string p, .string q, .string r, .bool true] 121)).alloc (.cells #[.string ByteArray.empty, .string ByteArray.empty, .string ByteArray.empty, .bool false] 121)); rw [HW1.out]; refine wpList_load_row rfl 121 (.tmp 3) rfl w.heap.size rfl 121 #[.string p, .string q, .string r, .bool true] (0, 0) _ HK1.out Tryz.underlying121 rfl size_line ?_)
      | (refine wpList_store_row rfl 121 (.tmp 6) (.tmp 11) rfl (w.heap.size + 1) #[.string p, .string q, .string r, .bool true] rfl rfl 121 #[.string ByteArray.empty, .string ByteArray.empty, .string ByteArray.empty, .bool false] HK2.out size_line rfl (lv_one ⟨p, q, r, true⟩) ?_))
    exact bodyPost_ret (results_cell_row (P := Tryz.prog) rfl _ _ (w.heap.size + 1) 121 #[.string p, .string q, .string r, .bool true] (0, 0) _ rfl (HK2.out.put _) Tryz.underlying121 rfl size_line) rfl ⟨rfl, below_put (by omega) _ HB1.out⟩
  | false =>
    go_enter Tryz.func104, Tryz.ntmps104
    unfold lv l0 at *
    go_wp2_with fail
    change Code.wp _ (Code.loop _) _ _ ((w.alloc (.cells #[.string p, .string q, .string r, .bool false] 121)).alloc (.cells #[.string ByteArray.empty, .string ByteArray.empty, .string ByteArray.empty, .bool false] 121))
    rw [HW1.out]
    refine wp_loop_rounds 4 ?_
    have i0 : ∀ w, (Instr.index 38 (.agg #[.string p, .string q, .string r]) (.int .i64 0)).run Tryz.prog w = .ok (.string p) w := fun w => index_three p q r 0 (by decide) w
    have i1 : ∀ w, (Instr.index 38 (.agg #[.string p, .string q, .string r]) (.int .i64 1)).run Tryz.prog w = .ok (.string q) w := fun w => index_three p q r 1 (by decide) w
    have i2 : ∀ w, (Instr.index 38 (.agg #[.string p, .string q, .string r]) (.int .i64 2)).run Tryz.prog w = .ok (.string r) w := fun w => index_three p q r 2 (by decide) w
    have HL1 := HK2
    clear HK2
    rw [rounds_succ]
    go_wp2_with fail
    refine (fr_hurt p a b _ HP.out).mono ?_
    rintro e w2 ⟨rfl, hb2⟩
    obtain ⟨p', hp'⟩ : ∃ p', hurtT p a b = p' := ⟨_, rfl⟩
    have k2 := HK1.out.after hb2
    have c0 : w2.cell? ⟨w.heap.size, 0, none⟩ = some (.string p) := k2.cell 0
    have f0 := k2.free 0
    have HBt := Lib.hid (HB1.out.trans (hb2.mono HB1.out.size)) 
    have HLt := Lib.hid (HL1.out.after hb2)
    have Hp' := Lib.hid hp'
    obtain ⟨v1, hv⟩ : ∃ v, w2.setCell ⟨w.heap.size, 0, none⟩ (.string p') = v := ⟨_, rfl⟩
    have hk3 := k2.set 0 (.string p') rfl
    have hl3 := HLt.out.set_other (c := w.heap.size) (by omega) 0 (.string p')
    have hb3 := HBt.out.setCell (p := ⟨w.heap.size, 0, none⟩) (Nat.le_refl _) (.string p')
    rw [hv] at hk3 hl3 hb3
    have HK2 := Lib.hid hk3
    have HL2 := Lib.hid hl3
    have HB2 := Lib.hid hb3
    have HV := Lib.hid hv
    rw [hp']
    clear hp' hb2 hv hk3 hl3 hb3 HBt HLt HK1 HL1 HB1 k2
    go_wp2_with fail
    clear c0 f0
    change Code.rounds _ _ _ _ _ (w2.setCell ⟨w.heap.size, 0, none⟩ (.string p'))
    rw [HV.out]
    clear HV
    rw [rounds_succ]
    go_wp2_with fail
    refine (fr_hurt q a b _ HQ.out).mono ?_
    rintro e w3 ⟨rfl, hb2⟩
    obtain ⟨q', hq'⟩ : ∃ q', hurtT q a b = q' := ⟨_, rfl⟩
    have k2 := HK2.out.after hb2
    have c0 : w3.cell? ⟨w.heap.size, 1, none⟩ = some (.string q) := k2.cell 1
    have f0 := k2.free 1
    have HBt := Lib.hid (HB2.out.trans (hb2.mono HB2.out.size)) 
    have HLt := Lib.hid (HL2.out.after hb2)
    have Hq' := Lib.hid hq'
    obtain ⟨v2, hv⟩ : ∃ v, w3.setCell ⟨w.heap.size, 1, none⟩ (.string q') = v := ⟨_, rfl⟩
    have hk3 := k2.set 1 (.string q') rfl
    have hl3 := HLt.out.set_other (c := w.heap.size) (by omega) 1 (.string q')
    have hb3 := HBt.out.setCell (p := ⟨w.heap.size, 1, none⟩) (Nat.le_refl _) (.string q')
    rw [hv] at hk3 hl3 hb3
    have HK3 := Lib.hid hk3
    have HL3 := Lib.hid hl3
    have HB3 := Lib.hid hb3
    have HV := Lib.hid hv
    rw [hq']
    clear hq' hb2 hv hk3 hl3 hb3 HBt HLt HK2 HL2 HB2 k2
    go_wp2_with fail
    clear c0 f0
    change Code.rounds _ _ _ _ _ (w3.setCell ⟨w.heap.size, 1, none⟩ (.string q'))
    rw [HV.out]
    clear HV
    rw [rounds_succ]
    go_wp2_with fail
    refine (fr_hurt r a b _ HR.out).mono ?_
    rintro e w4 ⟨rfl, hb2⟩
    obtain ⟨r', hr'⟩ : ∃ r', hurtT r a b = r' := ⟨_, rfl⟩
    have k2 := HK3.out.after hb2
    have c0 : w4.cell? ⟨w.heap.size, 2, none⟩ = some (.string r) := k2.cell 2
    have f0 := k2.free 2
    have HBt := Lib.hid (HB3.out.trans (hb2.mono HB3.out.size)) 
    have HLt := Lib.hid (HL3.out.after hb2)
    have Hr' := Lib.hid hr'
    obtain ⟨v3, hv⟩ : ∃ v, w4.setCell ⟨w.heap.size, 2, none⟩ (.string r') = v := ⟨_, rfl⟩
    have hk3 := k2.set 2 (.string r') rfl
    have hl3 := HLt.out.set_other (c := w.heap.size) (by omega) 2 (.string r')
    have hb3 := HBt.out.setCell (p := ⟨w.heap.size, 2, none⟩) (Nat.le_refl _) (.string r')
    rw [hv] at hk3 hl3 hb3
    have HK4 := Lib.hid hk3
    have HL4 := Lib.hid hl3
    have HB4 := Lib.hid hb3
    have HV := Lib.hid hv
    rw [hr']
    clear hr' hb2 hv hk3 hl3 hb3 HBt HLt HK3 HL3 HB3 k2
    go_wp2_with fail
    clear c0 f0
    change Code.rounds _ _ _ _ _ (w4.setCell ⟨w.heap.size, 2, none⟩ (.string r'))
    rw [HV.out]
    clear HV
    rw [rounds_succ]
    have c3 : v3.cell? ⟨w.heap.size, 3, none⟩ = some (.bool false) := HK4.out.cell 3
    have f3 := HK4.out.free 3
    obtain ⟨z, hz⟩ : ∃ z, v3.setCell ⟨w.heap.size, 3, none⟩ (.bool true) = z := ⟨_, rfl⟩
    have hk5 : Blk (v3.setCell ⟨w.heap.size, 3, none⟩ (.bool true)) w.heap.size #[.string p', .string q', .string r', .bool true] 121 := HK4.out.set 3 (.bool true) rfl
    have hl5 := HL4.out.set_other (c := w.heap.size) (by omega) 3 (.bool true)
    have hb5 := HB4.out.setCell (p := ⟨w.heap.size, 3, none⟩) (Nat.le_refl _) (.bool true)
    rw [hz] at hk5 hl5 hb5
    have HK5 := Lib.hid hk5
    have HL5 := Lib.hid hl5
    have HB5 := Lib.hid hb5
    have HZ := Lib.hid hz
    clear hz hk5 hl5 hb5 HK4 HL4 HB4
    go_wp2_with (first
      | (change wpList _ _ _ _ _ (v3.setCell ⟨w.heap.size, 3, none⟩ (.bool true)); rw [HZ.out]; refine wpList_load_row rfl 121 (.tmp 3) rfl w.heap.size rfl 121 #[.string p', .string q', .string r', .bool true] (0, 0) _ HK5.out Tryz.underlying121 rfl size_line ?_)
      | (refine wpList_store_row rfl 121 (.tmp 6) (.tmp 27) rfl (w.heap.size + 1) #[.string p', .string q', .string r', .bool true] rfl rfl 121 #[.string ByteArray.empty, .string ByteArray.empty, .string ByteArray.empty, .bool false] HL5.out size_line rfl (lv_one ⟨p', q', r', true⟩) ?_))
    exact bodyPost_ret (results_cell_row (P := Tryz.prog) rfl _ _ (w.heap.size + 1) 121 #[.string p', .string q', .string r', .bool true] (0, 0) _ rfl (HL5.out.put _) Tryz.underlying121 rfl size_line) rfl ⟨by rw [← Hp'.out, ← Hq'.out, ← Hr'.out]; rfl, below_put (by omega) _ HB5.out⟩

end Go.Proofs.YtlijndkpgmbapaaGreatDoor

/- Package cell, walked: takes. -/
namespace Go.Proofs.YtlijndkpgmbapaaGreatDoor
set_option maxRecDepth 100000
open Go.RowKit

theorem ce_takes1 (p : ByteArray) (bc o : Nat) (bl : ByteArray) (w : World) (hc : w.cell? ⟨bc, 0, none⟩ = some (.pointer (some ⟨o, 0, none⟩))) (ho : w.cell? ⟨o, 1, none⟩ = some (.string bl)) :
    Calls Tryz.prog 136 #[.string p, .pointer (some ⟨bc, 0, none⟩)] w fun e w' => e = .returned (.bool (p.size != bl.size)) ∧ w = w' := by
  go_enter Tryz.func136, Tryz.ntmps136
  go_wp2
  go_ret
  exact ⟨ret_bool (by rw [Bool.eq_iff_iff]; simp; try omega), rfl⟩

def badSize (bl : ByteArray) (p : ByteArray) : Bool := p.size != bl.size
theorem ce_index (ps : List ByteArray) (b cap bc o : Nat) (bl : ByteArray) (w : World) (hc : w.cell? ⟨bc, 0, none⟩ = some (.pointer (some ⟨o, 0, none⟩))) (ho : w.cell? ⟨o, 1, none⟩ = some (.string bl)) 
    (hn : ps.length ≤ 3) (hp : ∀ j, j < ps.length → w.cell? ⟨b, j, none⟩ = some (.string (ps.getD j ByteArray.empty))) :
    Calls Tryz.prog 158 #[.slice (some ⟨b, 0, none⟩) ps.length cap, .func (.func 136) #[] #[.pointer (some ⟨bc, 0, none⟩)]] w
      fun e w' => (∃ i : Int, e = .returned (.int .i64 i) ∧ -1 ≤ i ∧ i ≤ 3 ∧ decide (0 ≤ i) = ps.any (badSize bl)) ∧ w = w' := by
  obtain ⟨n, hnn⟩ : ∃ n, ps.length = n := ⟨_, rfl⟩
  rw [hnn] at hn hp ⊢
  have HN := Lib.hid hnn
  have HP := Lib.hid hp
  have HT := Lib.hid (fun p => ce_takes1 p bc o bl w hc ho)
  clear hnn hp hc ho
  go_enter Tryz.func158, Tryz.ntmps158
  go_wp2_with fail
  go_loop [5, 8] (fun _ i => ∃ j : Nat, j ≤ n ∧ i = .int .i64 j ∧ (ps.take j).any (badSize bl) = false) (fun _ i => n - (intOf i).toNat)
  case atStart => exact ⟨0, Nat.zero_le _, rfl, rfl⟩
  case round =>
    obtain ⟨j, hj, rfl, hany⟩ := hrel
    by_cases hlt : j < n
    · have hcell := HP.out j hlt
      have HTAKE : Hid (ps.take (j + 1) = ps.take j ++ [ps.getD j ByteArray.empty]) := by
        rw [List.take_add_one, List.getD_eq_getElem?_getD, List.getElem?_eq_getElem (by have := HN.out; omega)]; rfl
      obtain ⟨p, hpp⟩ : ∃ p, ps.getD j ByteArray.empty = p := ⟨_, rfl⟩
      rw [hpp] at hcell HTAKE
      have HC := Lib.hid (HT.out p)
      have HANY := Lib.hid hany
      clear hpp hany
      cases hq : badSize bl p with
      | true =>
        have HQ := Lib.hid hq
        have hq2 : (p.size != bl.size) = true := hq
        rw [hq2] at HC
        clear hq hq2
        go_wp2_with fail
        refine HC.out.mono ?_
        rintro e w' ⟨rfl, rfl⟩
        go_wp2_with fail
        go_ret
        refine ⟨⟨(j : Nat), rfl, by omega, by omega, ?_⟩, rfl⟩
        rw [decide_eq_true (by omega)]
        symm
        rw [List.any_eq_true]
        have h1 : p ∈ ps.take (j + 1) := by rw [HTAKE.out]; simp
        exact ⟨p, List.mem_of_mem_take h1, HQ.out⟩
      | false =>
        have HQ := Lib.hid hq
        have hq2 : (p.size != bl.size) = false := hq
        rw [hq2] at HC
        clear hq hq2
        go_wp2_with fail
        refine HC.out.mono ?_
        rintro e w' ⟨rfl, rfl⟩
        go_wp2_with fail
        go_round
        case rel =>
          refine ⟨j + 1, by omega, by go_num, ?_⟩
          rw [HTAKE.out, List.any_append, HANY.out]
          simp [HQ.out]
        case measure => simp [intOf]; omega
    · have hje : j = n := by omega
      have HANY := Lib.hid hany
      clear hany
      go_wp2_with fail
      go_ret
      refine ⟨⟨-1, rfl, by omega, by omega, ?_⟩, rfl⟩
      have h1 := HANY.out
      rw [hje, ← HN.out, List.take_length] at h1
      rw [h1]
      rfl
theorem ce_contains (ps : List ByteArray) (b cap bc o : Nat) (bl : ByteArray) (w : World) (hc : w.cell? ⟨bc, 0, none⟩ = some (.pointer (some ⟨o, 0, none⟩))) (ho : w.cell? ⟨o, 1, none⟩ = some (.string bl)) 
    (hn : ps.length ≤ 3) (hp : ∀ j, j < ps.length → w.cell? ⟨b, j, none⟩ = some (.string (ps.getD j ByteArray.empty))) :
    Calls Tryz.prog 135 #[.slice (some ⟨b, 0, none⟩) ps.length cap, .func (.func 136) #[] #[.pointer (some ⟨bc, 0, none⟩)]] w
      fun e w' => e = .returned (.bool (ps.any (badSize bl))) ∧ w = w' := by
  have HI := Lib.hid (ce_index ps b cap bc o bl w hc ho hn hp)
  clear hc ho hp
  go_enter Tryz.func135, Tryz.ntmps135
  go_wp2_with fail
  refine HI.out.mono ?_
  rintro e w' ⟨⟨i, rfl, h1, h2, h3⟩, rfl⟩
  have H3 := Lib.hid h3
  clear h3
  go_wp2_with fail
  go_ret
  exact ⟨ret_bool H3.out, rfl⟩

/-- may the cell be written in mode m with these pages? -/
def takesA (m0 m : Int) (b t : Bool) (bl : ByteArray) (ps : List ByteArray) : Bool := !b && !t && (m0 == 0 || m0 == m) && !ps.any (badSize bl)
set_option maxHeartbeats 1000000 in
theorem ce_takes (o L g cap : Nat) (bl : ByteArray) (m0 : Int) (d sl tl : Nat) (bad torn : Bool) (m : Int) (ps : List ByteArray) (pb pcap : Nat) (w : World) (hk : Blk w o (cc L g cap bl m0 d sl tl bad torn) 113) 
    (hn : ps.length ≤ 3) (hp : ∀ j, j < ps.length → w.cell? ⟨pb, j, none⟩ = some (.string (ps.getD j ByteArray.empty))) (hm : m0 = 0 ∨ m0 = 1 ∨ m0 = 2) (hm2 : m = 1 ∨ m = 2) :
    Calls Tryz.prog 92 #[.pointer (some ⟨o, 0, none⟩), .int .i64 m, .slice (some ⟨pb, 0, none⟩) ps.length pcap] w fun e w' => e = .returned (.bool (takesA m0 m bad torn bl ps)) ∧ Below w.heap.size w w' := by
  obtain ⟨w1, hw1⟩ : ∃ w1, w.alloc (.cells #[.pointer (some ⟨o, 0, none⟩)] 69) = w1 := ⟨_, rfl⟩
  have hb1 : Below w.heap.size w w1 := by rw [← hw1]; exact (Below.refl _ _).alloc (Nat.le_refl _) _
  have hx : w1.cell? ⟨w.heap.size, 0, none⟩ = some (.pointer (some ⟨o, 0, none⟩)) := by rw [← hw1]; exact (Blk.new w _ _).cell 0
  have hk1 : Blk w1 o (cc L g cap bl m0 d sl tl bad torn) 113 := hk.after hb1
  have c1 : w1.cell? ⟨o, 1, none⟩ = some (.string bl) := hk1.cell 1
  have c2 : w1.cell? ⟨o, 2, none⟩ = some (.int .i64 m0) := hk1.cell 2
  have c6 : w1.cell? ⟨o, 6, none⟩ = some (.bool bad) := hk1.cell 6
  have c7 : w1.cell? ⟨o, 7, none⟩ = some (.bool torn) := hk1.cell 7
  have hp1 : ∀ j, j < ps.length → w1.cell? ⟨pb, j, none⟩ = some (.string (ps.getD j ByteArray.empty)) := fun j hj => by
    have h1 := hp j hj
    rw [← h1]
    exact hb1.cell (p := ⟨pb, j, none⟩) (cell_lt h1)
  have HCON := Lib.hid (ce_contains ps pb pcap w.heap.size o bl w1 hx c1 hn hp1)
  have HB1 := Lib.hid hb1
  subst hw1
  obtain ⟨A, hA⟩ : ∃ A, ps.any (badSize bl) = A := ⟨_, rfl⟩
  unfold takesA
  rw [hA] at HCON ⊢
  obtain ⟨n, hnn⟩ : ∃ n, ps.length = n := ⟨_, rfl⟩
  rw [hnn] at HCON hn ⊢
  clear hk hk1 hb1 hp hp1 hA hnn
  cases bad with
  | true =>
    go_enter Tryz.func92, Tryz.ntmps92
    go_wp2_with fail
    go_ret
    exact ⟨rfl, HB1.out⟩
  | false =>
    cases torn with
    | true =>
      go_enter Tryz.func92, Tryz.ntmps92
      go_wp2_with fail
      go_ret
      exact ⟨rfl, HB1.out⟩
    | false =>
      rcases hm with rfl | rfl | rfl <;> rcases hm2 with rfl | rfl
      all_goals
        go_enter Tryz.func92, Tryz.ntmps92
        go_wp2_with fail
      all_goals first
        | (refine HCON.out.mono ?_
           rintro e w' ⟨rfl, rfl⟩
           go_wp2_with fail
           go_ret
           exact ⟨ret_bool (by simp), HB1.out⟩)
        | (go_ret
           exact ⟨rfl, HB1.out⟩)

end Go.Proofs.YtlijndkpgmbapaaGreatDoor

/- Package cell, walked: told, count, empty. -/
namespace Go.Proofs.YtlijndkpgmbapaaGreatDoor
set_option maxRecDepth 100000
open Go.RowKit

/-- the world while a region goes on that looks at a cell -/
def CB (w0 : World) (o : Nat) (cs : Array Value) (w : World) : Prop := Blk w o cs 113 ∧ Below w0.heap.size w0 w
theorem CB.call {w0 w w' : World} {o : Nat} {cs : Array Value} (h : CB w0 o cs w) (hb : Below w.heap.size w w') : CB w0 o cs w' := ⟨h.1.after hb, h.2.trans (hb.mono h.2.size)⟩
theorem no_specialC : ∀ (j : Nat) (a a' : Act) (w w' : World), (fun _ _ _ => False : Nat → Act → World → Prop) j a w → (∀ d ∈ ([] : List Tmp), a'.tmps.getD d undef = a.tmps.getD d undef) → Goes w w' → (fun _ _ _ => False : Nat → Act → World → Prop) j a' w' := fun _ _ _ _ _ h _ _ => h
/-- what each operation of the region CTD leaves -/
def vsCTD (o g cap L d i : Nat) : List (Option (Tmp × Value)) :=
  [some (22, .pointer (some ⟨o, 0, none⟩)), some (23, .pointer (some ⟨o, 0, none⟩)), some (24, .pointer (some ⟨o, 0, none⟩)), some (25, .slice (some ⟨g, 0, none⟩) L cap), some (26, .int .i64 (L : Int)), some (27, .pointer (some ⟨o, 0, none⟩)), some (28, .pointer (some ⟨o, 0, none⟩)), some (29, .pointer (some ⟨o, 3, none⟩)), some (30, .int .i64 (d : Int)), some (31, .int .i64 (i : Int)), some (32, .tuple #[.int .i64 (afN (L : Int) (d : Int) (i : Int)), .int .i64 (afC (L : Int) (d : Int) (i : Int))]), some (21, .tuple #[.int .i64 (afN (L : Int) (d : Int) (i : Int)), .int .i64 (afC (L : Int) (d : Int) (i : Int))]), some (33, .int .i64 (afN (L : Int) (d : Int) (i : Int))), some (34, .int .i64 (afC (L : Int) (d : Int) (i : Int))), some (6, .int .i64 (afN (L : Int) (d : Int) (i : Int))), some (7, .int .i64 (afC (L : Int) (d : Int) (i : Int)))]
/-- the frame while the region CTD runs -/
def BaseCTD (o i B : Nat) (a : Act) : Prop := ∃ u : Nat → Value, a = ⟨#[.pointer (some ⟨o, 0, none⟩), .int .i64 (i : Int), u 2, u 3, .pointer (some ⟨B, 0, none⟩), .pointer (some ⟨B + 1, 0, none⟩), u 6, u 7, u 8, u 9, u 10, u 11, u 12, u 13, u 14, u 15, u 16, u 17, u 18, u 19, u 20, u 21, u 22, u 23, u 24, u 25, u 26, u 27, u 28, u 29, u 30, u 31, u 32, u 33, u 34, u 35, u 36, u 37, u 38, u 39], []⟩
theorem BaseCTD.of {o i B : Nat} (arr : Array Value) (h : arr = #[.pointer (some ⟨o, 0, none⟩), .int .i64 (i : Int), arr.getD 2 undef, arr.getD 3 undef, .pointer (some ⟨B, 0, none⟩), .pointer (some ⟨B + 1, 0, none⟩), arr.getD 6 undef, arr.getD 7 undef, arr.getD 8 undef, arr.getD 9 undef, arr.getD 10 undef, arr.getD 11 undef, arr.getD 12 undef, arr.getD 13 undef, arr.getD 14 undef, arr.getD 15 undef, arr.getD 16 undef, arr.getD 17 undef, arr.getD 18 undef, arr.getD 19 undef, arr.getD 20 undef, arr.getD 21 undef, arr.getD 22 undef, arr.getD 23 undef, arr.getD 24 undef, arr.getD 25 undef, arr.getD 26 undef, arr.getD 27 undef, arr.getD 28 undef, arr.getD 29 undef, arr.getD 30 undef, arr.getD 31 undef, arr.getD 32 undef, arr.getD 33 undef, arr.getD 34 undef, arr.getD 35 undef, arr.getD 36 undef, arr.getD 37 undef, arr.getD 38 undef, arr.getD 39 undef]) : BaseCTD o i B ⟨arr, []⟩ := ⟨fun i => arr.getD i undef, by rw [← h]⟩
theorem BaseCTD.put22 {o i B : Nat} (a : Act) (v : Value) (h : BaseCTD o i B a) : BaseCTD o i B (a.put (some 22) v) := by
  obtain ⟨u, rfl⟩ := h
  exact ⟨fun i => if i = 22 then v else u i, by kernel_rfl⟩
theorem BaseCTD.put23 {o i B : Nat} (a : Act) (v : Value) (h : BaseCTD o i B a) : BaseCTD o i B (a.put (some 23) v) := by
  obtain ⟨u, rfl⟩ := h
  exact ⟨fun i => if i = 23 then v else u i, by kernel_rfl⟩
theorem BaseCTD.put24 {o i B : Nat} (a : Act) (v : Value) (h : BaseCTD o i B a) : BaseCTD o i B (a.put (some 24) v) := by
  obtain ⟨u, rfl⟩ := h
  exact ⟨fun i => if i = 24 then v else u i, by kernel_rfl⟩
theorem BaseCTD.put25 {o i B : Nat} (a : Act) (v : Value) (h : BaseCTD o i B a) : BaseCTD o i B (a.put (some 25) v) := by
  obtain ⟨u, rfl⟩ := h
  exact ⟨fun i => if i = 25 then v else u i, by kernel_rfl⟩
theorem BaseCTD.put26 {o i B : Nat} (a : Act) (v : Value) (h : BaseCTD o i B a) : BaseCTD o i B (a.put (some 26) v) := by
  obtain ⟨u, rfl⟩ := h
  exact ⟨fun i => if i = 26 then v else u i, by kernel_rfl⟩
theorem BaseCTD.put27 {o i B : Nat} (a : Act) (v : Value) (h : BaseCTD o i B a) : BaseCTD o i B (a.put (some 27) v) := by
  obtain ⟨u, rfl⟩ := h
  exact ⟨fun i => if i = 27 then v else u i, by kernel_rfl⟩
theorem BaseCTD.put28 {o i B : Nat} (a : Act) (v : Value) (h : BaseCTD o i B a) : BaseCTD o i B (a.put (some 28) v) := by
  obtain ⟨u, rfl⟩ := h
  exact ⟨fun i => if i = 28 then v else u i, by kernel_rfl⟩
theorem BaseCTD.put29 {o i B : Nat} (a : Act) (v : Value) (h : BaseCTD o i B a) : BaseCTD o i B (a.put (some 29) v) := by
  obtain ⟨u, rfl⟩ := h
  exact ⟨fun i => if i = 29 then v else u i, by kernel_rfl⟩
theorem BaseCTD.put30 {o i B : Nat} (a : Act) (v : Value) (h : BaseCTD o i B a) : BaseCTD o i B (a.put (some 30) v) := by
  obtain ⟨u, rfl⟩ := h
  exact ⟨fun i => if i = 30 then v else u i, by kernel_rfl⟩
theorem BaseCTD.put31 {o i B : Nat} (a : Act) (v : Value) (h : BaseCTD o i B a) : BaseCTD o i B (a.put (some 31) v) := by
  obtain ⟨u, rfl⟩ := h
  exact ⟨fun i => if i = 31 then v else u i, by kernel_rfl⟩
theorem BaseCTD.put32 {o i B : Nat} (a : Act) (v : Value) (h : BaseCTD o i B a) : BaseCTD o i B (a.put (some 32) v) := by
  obtain ⟨u, rfl⟩ := h
  exact ⟨fun i => if i = 32 then v else u i, by kernel_rfl⟩
theorem BaseCTD.put21 {o i B : Nat} (a : Act) (v : Value) (h : BaseCTD o i B a) : BaseCTD o i B (a.put (some 21) v) := by
  obtain ⟨u, rfl⟩ := h
  exact ⟨fun i => if i = 21 then v else u i, by kernel_rfl⟩
theorem BaseCTD.put33 {o i B : Nat} (a : Act) (v : Value) (h : BaseCTD o i B a) : BaseCTD o i B (a.put (some 33) v) := by
  obtain ⟨u, rfl⟩ := h
  exact ⟨fun i => if i = 33 then v else u i, by kernel_rfl⟩
theorem BaseCTD.put34 {o i B : Nat} (a : Act) (v : Value) (h : BaseCTD o i B a) : BaseCTD o i B (a.put (some 34) v) := by
  obtain ⟨u, rfl⟩ := h
  exact ⟨fun i => if i = 34 then v else u i, by kernel_rfl⟩
theorem BaseCTD.put6 {o i B : Nat} (a : Act) (v : Value) (h : BaseCTD o i B a) : BaseCTD o i B (a.put (some 6) v) := by
  obtain ⟨u, rfl⟩ := h
  exact ⟨fun i => if i = 6 then v else u i, by kernel_rfl⟩
theorem BaseCTD.put7 {o i B : Nat} (a : Act) (v : Value) (h : BaseCTD o i B a) : BaseCTD o i B (a.put (some 7) v) := by
  obtain ⟨u, rfl⟩ := h
  exact ⟨fun i => if i = 7 then v else u i, by kernel_rfl⟩

/-- a line as it is read, by the cell's numbers -/
def toldR (m : Int) (L d : Nat) (ls : List Ln) (i : Nat) : Ln := if m = 2 ∧ afterC L d i = 1 then hurtL (lnAt ls i) 0 0 else lnAt ls i
theorem told_is (s : St) (ls : List Ln) (i : Nat) : toldR s.mode s.L s.done ls i = lnTold s ls i := by
  unfold toldR lnTold isFog
  rw [show 3 * i / 3 = i by omega]
  by_cases h1 : s.mode = 2 <;> by_cases h2 : afterC s.L s.done i = 1 <;> simp [h1, h2]
set_option maxHeartbeats 1000000 in
theorem ce_told (o L g cap : Nat) (bl : ByteArray) (m : Int) (d sl tl : Nat) (bad torn : Bool) (ls : List Ln) (i : Nat) (w : World) (hk : Blk w o (cc L g cap bl m d sl tl bad torn) 113) (hl : LnsAt w g ls) (hlen : ls.length = L)
    (h1 : 1 ≤ L) (h64 : L ≤ 64) (hd : d ≤ 2 * L) (hi : i < L) (hs : ∀ t, ((lnAt ls i).pt t).size ≤ 400) (hm : m = 0 ∨ m = 1 ∨ m = 2) :
    Calls Tryz.prog 84 #[.pointer (some ⟨o, 0, none⟩), .int .i64 (i : Int)] w fun e w' => e = .returned (.agg (lv (toldR m L d ls i))) ∧ Below w.heap.size w w' := by
  obtain ⟨ln, hln⟩ : ∃ ln, lnAt ls i = ln := ⟨_, rfl⟩
  have hrg := hl.range (i := i) (by omega)
  unfold toldR
  rw [hln] at hs hrg ⊢
  obtain ⟨X, hX⟩ : ∃ X, (if m = 2 ∧ afterC L d i = 1 then hurtL ln 0 0 else ln) = X := ⟨_, rfl⟩
  have HX1 : Hid (m = 2 ∧ afterC L d i = 1 → hurtL ln 0 0 = X) := fun h => by rw [← hX, if_pos h]
  have HX0 : Hid (¬ (m = 2 ∧ afterC L d i = 1) → ln = X) := fun h => by rw [← hX, if_neg h]
  rw [hX]
  clear hX
  obtain ⟨w1, hw1⟩ : ∃ w1, w.alloc (.cells #[.string ⟨#[]⟩, .string ⟨#[]⟩, .string ⟨#[]⟩, .bool false] 121) = w1 := ⟨_, rfl⟩
  have hb1 : Below w.heap.size w w1 := by rw [← hw1]; exact (Below.refl _ _).alloc (Nat.le_refl _) _
  have hn1 : Blk w1 w.heap.size (lv l0) 121 := by rw [← hw1]; exact Blk.new w _ _
  have hs1 : w1.heap.size = w.heap.size + 1 := by rw [← hw1, World.size_alloc]
  have hrg1 : w1.rangeAt g (i * 4) (lnL ln) := by rw [← hw1]; exact World.rangeAt_alloc hrg _
  obtain ⟨w2, hw2⟩ : ∃ w2, (w1.alloc (.cells #[.string ⟨#[]⟩, .string ⟨#[]⟩, .string ⟨#[]⟩, .bool false] 121)).setRow (w.heap.size + 1) (lv ln) = w2 := ⟨_, rfl⟩
  have hb2 : Below w1.heap.size w1 w2 := by rw [← hw2]; exact below_put (by omega) _ ((Below.refl _ _).alloc (Nat.le_refl _) _)
  have hz2 : Blk (w1.alloc (.cells #[.string ⟨#[]⟩, .string ⟨#[]⟩, .string ⟨#[]⟩, .bool false] 121)) (w.heap.size + 1) (lv l0) 121 := by have h := Blk.new w1 #[.string ⟨#[]⟩, .string ⟨#[]⟩, .string ⟨#[]⟩, .bool false] 121; rw [hs1] at h; exact h
  have hn2 : Blk w2 (w.heap.size + 1) (lv ln) 121 := by rw [← hw2]; exact hz2.put _
  have hk1 := hk.after hb1
  have hk2 := hk1.after hb2
  have c0 : w1.cell? ⟨o, 0, none⟩ = some (.slice (some ⟨g, 0, none⟩) L cap) := hk1.cell 0
  have c2 : w2.cell? ⟨o, 2, none⟩ = some (.int .i64 m) := hk2.cell 2
  have HC0 : Hid (CB w2 o (cc L g cap bl m d sl tl bad torn) w2) := ⟨hk2, Below.refl _ _⟩
  have HB2 := Lib.hid (hb1.trans (hb2.mono hb1.size))
  have HN1 := Lib.hid (hn1.after hb2)
  have HN2 := Lib.hid hn2
  have HZ2 := Lib.hid hz2
  have HRG := Lib.hid hrg1
  have HS := Lib.hid hs
  have HW2 := Lib.hid hw2
  have HD := Lib.hid hd
  have HI := Lib.hid (⟨h1, h64⟩ : 1 ≤ L ∧ L ≤ 64)
  subst hw1
  clear hk hl hlen hln hrg hb1 hn1 hs1 hrg1 hw2 hb2 hz2 hn2 hk1 hk2 hs hd
  go_enter Tryz.func84, Tryz.ntmps84
  by_cases hm2 : m = 2
  · subst hm2
    go_wp2_with (first
      | (refine wpList_load_mid rfl 121 (.tmp 13) rfl g (i * 4) rfl (lnL ln) _ HRG.out Tryz.underlying121 rfl size_line ?_)
      | (refine wpList_store_row rfl 121 (.tmp 5) (.tmp 14) rfl (w.heap.size + 1) (lv ln) rfl rfl 121 (lv l0) HZ2.out size_line rfl (lv_one _) ?_; change wpList _ _ _ _ _ (((w.alloc (.cells #[.string ⟨#[]⟩, .string ⟨#[]⟩, .string ⟨#[]⟩, .bool false] 121)).alloc (.cells #[.string ⟨#[]⟩, .string ⟨#[]⟩, .string ⟨#[]⟩, .bool false] 121)).setRow (w.heap.size + 1) (lv ln)); rw [HW2.out]))
    have hafn : afN (L : Int) (d : Int) (i : Int) = ((afterC L d i : Nat) : Int) := by
      have hi1 := HI.out
      have hd1 := HD.out
      unfold afN
      rw [if_pos ⟨⟨by omega, by omega⟩, by omega, by omega, by omega, by omega⟩]
      simp
    have HAF := Lib.hid hafn
    clear hafn c2 HRG HW2 HZ2
    rename_i K0 hK0
    refine wp_region_list3 (SV (vsCTD o g cap L d i) []) (BaseCTD o i w.heap.size) (CB w2 o (cc L g cap bl 2 d sl tl bad torn)) (Goes) (RV (vsCTD o g cap L d i) (fun _ _ _ => False)) rfl (by kernel_rfl) (RV.ext no_specialC) ?_ (HC0.out.call (Below.refl _ _).drew) (BaseCTD.of _ (by kernel_rfl)) ?_ ?_
    · exact ⟨BaseCTD.put22, BaseCTD.put23, BaseCTD.put24, BaseCTD.put25, BaseCTD.put26, BaseCTD.put27, BaseCTD.put28, BaseCTD.put29, BaseCTD.put30, BaseCTD.put31, BaseCTD.put32, BaseCTD.put21, BaseCTD.put33, BaseCTD.put34, BaseCTD.put6, BaseCTD.put7, trivial⟩
    · refine ⟨?_, ?_, ?_, ?_, ?_, ?_, ?_, ?_, ?_, ?_, ?_, ?_, ?_, ?_, ?_, ?_, trivial⟩
      all_goals
        intro a w' hC hB hR
        obtain ⟨u, rfl⟩ := hB
        have HC := Lib.hid hC
        clear hC
        clear hK0
      · clear hR
        refine if_yes (by kernel_rfl) ?_
        unfold Oper.wp
        go_simp
        exact ⟨.pointer (some ⟨o, 0, none⟩), rfl, HC.out, Below.refl _ _, rfl⟩
      · have h22 : u 22 = .pointer (some ⟨o, 0, none⟩) := hR ⟨0, .data⟩ (by simp) rfl
        clear hR
        simp only [h22]
        clear h22
        refine if_yes (by kernel_rfl) ?_
        unfold Oper.wp
        go_simp
        exact ⟨.pointer (some ⟨o, 0, none⟩), rfl, HC.out, Below.refl _ _, rfl⟩
      · have h23 : u 23 = .pointer (some ⟨o, 0, none⟩) := hR ⟨1, .data⟩ (by simp) rfl
        clear hR
        simp only [h23]
        clear h23
        refine if_yes (by kernel_rfl) ?_
        unfold Oper.wp
        go_simp
        exact ⟨.pointer (some ⟨o, 0, none⟩), rfl, HC.out, Below.refl _ _, rfl⟩
      · have h24 : u 24 = .pointer (some ⟨o, 0, none⟩) := hR ⟨2, .data⟩ (by simp) rfl
        have hc : w'.cell? ⟨o, 0, none⟩ = some (.slice (some ⟨g, 0, none⟩) L cap) := HC.out.1.cell 0
        clear hR
        simp only [h24]
        clear h24
        refine if_yes (by kernel_rfl) ?_
        unfold Oper.wp
        go_simp
        exact ⟨.slice (some ⟨g, 0, none⟩) L cap, rfl, HC.out, Below.refl _ _, rfl⟩
      · have h25 : u 25 = .slice (some ⟨g, 0, none⟩) L cap := hR ⟨3, .data⟩ (by simp) rfl
        clear hR
        simp only [h25]
        clear h25
        refine if_yes (by kernel_rfl) ?_
        unfold Oper.wp
        go_simp
        exact ⟨.int .i64 (L : Int), rfl, HC.out, Below.refl _ _, rfl⟩
      · clear hR
        refine if_yes (by kernel_rfl) ?_
        unfold Oper.wp
        go_simp
        exact ⟨.pointer (some ⟨o, 0, none⟩), rfl, HC.out, Below.refl _ _, rfl⟩
      · have h27 : u 27 = .pointer (some ⟨o, 0, none⟩) := hR ⟨5, .data⟩ (by simp) rfl
        clear hR
        simp only [h27]
        clear h27
        refine if_yes (by kernel_rfl) ?_
        unfold Oper.wp
        go_simp
        exact ⟨.pointer (some ⟨o, 0, none⟩), rfl, HC.out, Below.refl _ _, rfl⟩
      · have h28 : u 28 = .pointer (some ⟨o, 0, none⟩) := hR ⟨6, .data⟩ (by simp) rfl
        clear hR
        simp only [h28]
        clear h28
        refine if_yes (by kernel_rfl) ?_
        unfold Oper.wp
        go_simp
        exact ⟨.pointer (some ⟨o, 3, none⟩), rfl, HC.out, Below.refl _ _, rfl⟩
      · have h29 : u 29 = .pointer (some ⟨o, 3, none⟩) := hR ⟨7, .data⟩ (by simp) rfl
        have hc : w'.cell? ⟨o, 3, none⟩ = some (.int .i64 (d : Int)) := HC.out.1.cell 3
        clear hR
        simp only [h29]
        clear h29
        refine if_yes (by kernel_rfl) ?_
        unfold Oper.wp
        go_simp
        exact ⟨.int .i64 (d : Int), rfl, HC.out, Below.refl _ _, rfl⟩
      · clear hR
        refine if_yes (by kernel_rfl) ?_
        unfold Oper.wp
        go_simp
        exact ⟨.int .i64 (i : Int), rfl, HC.out, Below.refl _ _, rfl⟩
      · have h26 : u 26 = .int .i64 (L : Int) := hR ⟨4, .data⟩ (by simp) rfl
        have h30 : u 30 = .int .i64 (d : Int) := hR ⟨8, .data⟩ (by simp) rfl
        have h31 : u 31 = .int .i64 (i : Int) := hR ⟨9, .data⟩ (by simp) rfl
        clear hR
        simp only [h26, h30, h31]
        clear h26 h30 h31
        refine if_yes (by kernel_rfl) ?_
        unfold Oper.wp
        go_simp
        refine (or_after (L : Int) (d : Int) (i : Int) _).mono ?_
        rintro e w2 ⟨rfl, hb2⟩
        exact ⟨.tuple #[.int .i64 (afN (L : Int) (d : Int) (i : Int)), .int .i64 (afC (L : Int) (d : Int) (i : Int))], rfl, HC.out.call hb2, hb2, rfl⟩
      · have h32 : u 32 = .tuple #[.int .i64 (afN (L : Int) (d : Int) (i : Int)), .int .i64 (afC (L : Int) (d : Int) (i : Int))] := hR ⟨10, .data⟩ (by simp) rfl
        clear hR
        simp only [h32]
        clear h32
        refine if_yes (by kernel_rfl) ?_
        unfold Oper.wp
        go_simp
        exact ⟨.tuple #[.int .i64 (afN (L : Int) (d : Int) (i : Int)), .int .i64 (afC (L : Int) (d : Int) (i : Int))], rfl, HC.out, Below.refl _ _, rfl⟩
      · have h21 : u 21 = .tuple #[.int .i64 (afN (L : Int) (d : Int) (i : Int)), .int .i64 (afC (L : Int) (d : Int) (i : Int))] := hR ⟨11, .data⟩ (by simp) rfl
        clear hR
        simp only [h21]
        clear h21
        refine if_yes (by kernel_rfl) ?_
        unfold Oper.wp
        go_simp
        exact ⟨.int .i64 (afN (L : Int) (d : Int) (i : Int)), rfl, HC.out, Below.refl _ _, rfl⟩
      · have h21 : u 21 = .tuple #[.int .i64 (afN (L : Int) (d : Int) (i : Int)), .int .i64 (afC (L : Int) (d : Int) (i : Int))] := hR ⟨11, .data⟩ (by simp) rfl
        clear hR
        simp only [h21]
        clear h21
        refine if_yes (by kernel_rfl) ?_
        unfold Oper.wp
        go_simp
        exact ⟨.int .i64 (afC (L : Int) (d : Int) (i : Int)), rfl, HC.out, Below.refl _ _, rfl⟩
      · have h33 : u 33 = .int .i64 (afN (L : Int) (d : Int) (i : Int)) := hR ⟨12, .data⟩ (by simp) rfl
        clear hR
        simp only [h33]
        clear h33
        refine if_yes (by kernel_rfl) ?_
        unfold Oper.wp
        go_simp
        exact ⟨.int .i64 (afN (L : Int) (d : Int) (i : Int)), rfl, HC.out, Below.refl _ _, rfl⟩
      · have h34 : u 34 = .int .i64 (afC (L : Int) (d : Int) (i : Int)) := hR ⟨13, .data⟩ (by simp) rfl
        clear hR
        simp only [h34]
        clear h34
        refine if_yes (by kernel_rfl) ?_
        unfold Oper.wp
        go_simp
        exact ⟨.int .i64 (afC (L : Int) (d : Int) (i : Int)), rfl, HC.out, Below.refl _ _, rfl⟩
    · intro a w' hC hB hR
      have h6 := hR 14 (by decide)
      obtain ⟨u, rfl⟩ := hB
      have h6 : u 6 = .int .i64 (afN (L : Int) (d : Int) (i : Int)) := h6
      have HK1 := Lib.hid (HN1.out.after hC.2)
      have HK2 := Lib.hid (HN2.out.after hC.2)
      have HB3 := Lib.hid (HB2.out.trans (hC.2.mono HB2.out.size))
      rw [HAF.out] at h6
      simp only [h6]
      clear h6 hR hC HAF HC0 HN1 HN2 HB2
      obtain ⟨n, hn⟩ : ∃ n, afterC L d i = n := ⟨_, rfl⟩
      have hn2 : n ≤ 2 := by rw [← hn]; exact after_le _ _ _
      have HN := Lib.hid hn
      rw [hn]
      clear hn
      by_cases h1n : n = 1
      · subst h1n
        go_wp2_with (first
          | (refine wpList_load_row rfl 121 (.tmp 5) rfl (w.heap.size + 1) rfl 121 (lv ln) (0, 0) _ HK2.out Tryz.underlying121 rfl size_line ?_))
        refine (ce_hurtBy ln 0 0 _ HS.out).mono ?_
        rintro e w4 ⟨rfl, hb4⟩
        have HK4 := Lib.hid (HK1.out.after hb4)
        have HB4 := Lib.hid (HB3.out.trans (hb4.mono HB3.out.size))
        clear hb4
        go_wp2_with (first
          | (refine wpList_store_row rfl 121 (.tmp 4) (.tmp 39) rfl w.heap.size (lv (hurtL ln 0 0)) rfl rfl 121 (lv l0) HK4.out size_line rfl (lv_one _) ?_))
        exact bodyPost_ret (results_cell_row (P := Tryz.prog) rfl _ _ w.heap.size 121 (lv (hurtL ln 0 0)) (0, 0) _ rfl (HK4.out.put _) Tryz.underlying121 rfl size_line) rfl ⟨by rw [HX1.out ⟨by trivial, HN.out⟩], below_put (Nat.le_refl _) _ HB4.out⟩
      · have HR := Lib.hid (HX0.out (fun h => h1n (by rw [← HN.out]; exact h.2)))
        have h1b : ((n : Int) == 1) = false := by simp; omega
        have h1i : ¬ (n : Int) = 1 := by omega
        go_wp2_with (first
          | (refine wpList_load_row rfl 121 (.tmp 5) rfl (w.heap.size + 1) rfl 121 (lv ln) (0, 0) _ HK2.out Tryz.underlying121 rfl size_line ?_)
          | (refine wpList_store_row rfl 121 (.tmp 4) (.tmp 37) rfl w.heap.size (lv ln) rfl rfl 121 (lv l0) HK1.out size_line rfl (lv_one _) ?_))
        exact bodyPost_ret (results_cell_row (P := Tryz.prog) rfl _ _ w.heap.size 121 (lv ln) (0, 0) _ rfl (HK1.out.put _) Tryz.underlying121 rfl size_line) rfl ⟨by rw [HR.out], below_put (Nat.le_refl _) _ HB3.out⟩
  · have HR := Lib.hid (HX0.out (fun h => hm2 h.1))
    have h1b : (m == 2) = false := by simpa using hm2
    go_wp2_with (first
      | (refine wpList_load_mid rfl 121 (.tmp 13) rfl g (i * 4) rfl (lnL ln) _ HRG.out Tryz.underlying121 rfl size_line ?_)
      | (refine wpList_store_row rfl 121 (.tmp 5) (.tmp 14) rfl (w.heap.size + 1) (lv ln) rfl rfl 121 (lv l0) HZ2.out size_line rfl (lv_one _) ?_; change wpList _ _ _ _ _ (((w.alloc (.cells #[.string ⟨#[]⟩, .string ⟨#[]⟩, .string ⟨#[]⟩, .bool false] 121)).alloc (.cells #[.string ⟨#[]⟩, .string ⟨#[]⟩, .string ⟨#[]⟩, .bool false] 121)).setRow (w.heap.size + 1) (lv ln)); rw [HW2.out])
      | (refine wpList_load_row rfl 121 (.tmp 5) rfl (w.heap.size + 1) rfl 121 (lv ln) (0, 0) _ HN2.out Tryz.underlying121 rfl size_line ?_)
      | (refine wpList_store_row rfl 121 (.tmp 4) (.tmp 20) rfl w.heap.size (lv ln) rfl rfl 121 (lv l0) HN1.out size_line rfl (lv_one _) ?_))
    exact bodyPost_ret (results_cell_row (P := Tryz.prog) rfl _ _ w.heap.size 121 (lv ln) (0, 0) _ rfl (HN1.out.put _) Tryz.underlying121 rfl size_line) rfl ⟨by rw [HR.out], below_put (Nat.le_refl _) _ HB2.out⟩

end Go.Proofs.YtlijndkpgmbapaaGreatDoor
