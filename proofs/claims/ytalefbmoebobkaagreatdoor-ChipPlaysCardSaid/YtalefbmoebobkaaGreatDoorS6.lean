/- Texts of one claim, merged: Shelf, FaS1, FaC1, FaC2, FaC3, ChM, FrC0, CeC0, CeC2, CeC3, CeC4, CeC5. -/
import Derived.Shelf.Strings.Builder2
import Derived.Shelf.Strings.BuilderK
import Derived.Shelf.Strings.Repeat
import Derived.Shelf.SlicesQ.IndexFunc
import Derived.Shelf.SlSortCmp.KitK
import Derived.Shelf.SlicesE.Clone
import Derived.Shelf.SlicesG.Cmp
import Derived.Test.YtalefbmoebobkaaGreatDoorChecked
import Derived.Test.YtalefbmoebobkaaGreatDoorS3
import Derived.Sort.WalkB2
import Derived.Sort.WalkB12
import Derived.Deep.LoopGhost
import Derived.Test.YtalefbmoebobkaaGreatDoorS1
import Derived.Deep.MidRow
import Derived.Lib.SliceRun
import Derived.Test.YtalefbmoebobkaaGreatDoorS2
import Derived.Laws.AppendOwn
import Derived.LoopN
import Derived.Deep.QuietTactic
import Derived.BigQuiet
import Derived.StillTailTactics
import Derived.Test.YtalefbmoebobkaaGreatDoorS4
/-
 DERIVED: THE SHELF's CONTRACTS AT THIS DUMP, IN PLAIN WORDS (tools/lay-plain.mjs out of 'YtalefbmoebobkaaGreatDoorShelf.lean', which tools/lay-shelf.mjs wrote): THE SAME DECLARATIONS UNDER THE SAME NAMES: 'import', 'namespace', 'open', 'def', 'theorem' AND NOTHING ELSE: no command of the shelf's: FOR A HAND-IN. Each laying: the table of numbers ('.._ren') and one theorem, a field a fact of the dump's own or the kernel's comparison; each contract: ONE APPLICATION.
-/
namespace Go.Proofs
open Go.Shelf
def Tryz.lays105_ren : Go.Shelf.Ren := ⟨fun | 105 => 71 | 212 => 117 | 99 => 118 | 165 => 111 | 166 => 115 | 170 => 119 | 169 => 116 | 263 => 147 | 264 => 148 | 206 => 149 | 240 => 141 | 241 => 142 | 276 => 161 | 277 => 162 | n => n, fun | 9 => 9 | 3 => 3 | 4 => 4 | 20 => 20 | 0 => 0 | 46 => 156 | 109 => 157 | 5 => 5 | 72 => 145 | 76 => 153 | 51 => 180 | 146 => 181 | 53 => 164 | 148 => 183 | 70 => 143 | 37 => 112 | 75 => 152 | 127 => 179 | 164 => 198 | 80 => 155 | n => n, fun | n => n⟩
theorem Tryz.lays105 : Go.Proofs.Lays.n105 Tryz.prog Tryz.lays105_ren := {
 mixed := by kernel_rfl
 f99 := Tryz.func118.trans (congrArg some (by kernel_rfl))
 f105 := Tryz.func71.trans (congrArg some (by kernel_rfl))
 f165 := Tryz.func111.trans (congrArg some (by kernel_rfl))
 f166 := Tryz.func115.trans (congrArg some (by kernel_rfl))
 f169 := Tryz.func116.trans (congrArg some (by kernel_rfl))
 f170 := Tryz.func119.trans (congrArg some (by kernel_rfl))
 f206 := Tryz.func149.trans (congrArg some (by kernel_rfl))
 f212 := Tryz.func117.trans (congrArg some (by kernel_rfl))
 f240 := Tryz.func141.trans (congrArg some (by kernel_rfl))
 f241 := Tryz.func142.trans (congrArg some (by kernel_rfl))
 f263 := Tryz.func147.trans (congrArg some (by kernel_rfl))
 f264 := Tryz.func148.trans (congrArg some (by kernel_rfl))
 f276 := Tryz.func161.trans (congrArg some (by kernel_rfl))
 f277 := Tryz.func162.trans (congrArg some (by kernel_rfl))
 t0 := Tryz.underlying0
 a0 := Tryz.isAgg0
 z0 := Tryz.sizeOf0
 v0 := Tryz.zeroValue0
 t3 := Tryz.underlying3
 a3 := Tryz.isAgg3
 z3 := Tryz.sizeOf3
 v3 := Tryz.zeroValue3
 t4 := Tryz.underlying4
 a4 := Tryz.isAgg4
 z4 := Tryz.sizeOf4
 v4 := Tryz.zeroValue4
 t5 := Tryz.underlying5
 a5 := Tryz.isAgg5
 z5 := Tryz.sizeOf5
 v5 := Tryz.zeroValue5
 t9 := Tryz.underlying9
 a9 := Tryz.isAgg9
 z9 := Tryz.sizeOf9
 v9 := Tryz.zeroValue9
 t20 := Tryz.underlying20
 a20 := Tryz.isAgg20
 z20 := Tryz.sizeOf20
 v20 := Tryz.zeroValue20
 t37 := Tryz.underlying112
 a37 := Tryz.isAgg112
 z37 := Tryz.sizeOf112
 v37 := Tryz.zeroValue112
 t46 := Tryz.underlying156
 a46 := Tryz.isAgg156
 z46 := Tryz.sizeOf156
 v46 := Tryz.zeroValue156
 t51 := Tryz.underlying180
 a51 := Tryz.isAgg180
 z51 := Tryz.sizeOf180
 v51 := Tryz.zeroValue180
 t53 := Tryz.underlying164
 a53 := Tryz.isAgg164
 z53 := Tryz.sizeOf164
 v53 := Tryz.zeroValue164
 t70 := Tryz.underlying143
 a70 := Tryz.isAgg143
 z70 := Tryz.sizeOf143
 v70 := Tryz.zeroValue143
 t72 := Tryz.underlying145
 a72 := Tryz.isAgg145
 z72 := Tryz.sizeOf145
 v72 := Tryz.zeroValue145
 t75 := Tryz.underlying152
 a75 := Tryz.isAgg152
 z75 := Tryz.sizeOf152
 v75 := Tryz.zeroValue152
 t76 := Tryz.underlying153
 a76 := Tryz.isAgg153
 z76 := Tryz.sizeOf153
 v76 := Tryz.zeroValue153
 t109 := Tryz.underlying157
 a109 := Tryz.isAgg157
 z109 := Tryz.sizeOf157
 v109 := Tryz.zeroValue157
 t127 := Tryz.underlying179
 a127 := Tryz.isAgg179
 z127 := Tryz.sizeOf179
 v127 := Tryz.zeroValue179
 t146 := Tryz.underlying181
 a146 := Tryz.isAgg181
 z146 := Tryz.sizeOf181
 v146 := Tryz.zeroValue181
 t148 := Tryz.underlying183
 a148 := Tryz.isAgg183
 z148 := Tryz.sizeOf183
 v148 := Tryz.zeroValue183
 t164 := Tryz.underlying198
 a164 := Tryz.isAgg198
 z164 := Tryz.sizeOf198
 v164 := Tryz.zeroValue198 }
theorem Tryz.Builder_Extra_105 : Builder.Extra Tryz.prog Tryz.lays105_ren := {
 sizeBuilder := by kernel_rfl
 liesBuilder := by kernel_rfl
 t5 := Tryz.underlying5
 a5 := Tryz.isAgg5
 z5 := Tryz.sizeOf5
 v5 := Tryz.zeroValue5
 infoByte := by kernel_rfl
 cellsByte := by kernel_rfl
 sizeByte := by kernel_rfl
 neB5 := by decide }
def Tryz.idxf_ren : Go.Shelf.Ren := ⟨fun | 6 => 120 | n => n, fun | 22 => 24 | 23 => 40 | 25 => 127 | 3 => 3 | 0 => 0 | 4 => 4 | n => n, fun | n => n⟩
theorem Tryz.idxf : Go.Proofs.SlLaysH0.n6 Tryz.prog Tryz.idxf_ren := {
 mixed := by kernel_rfl
 f6 := ⟨Tryz.f120.name, by decide, Tryz.func120.trans (congrArg some (by kernel_rfl))⟩
 t0 := Tryz.underlying0
 a0 := Tryz.isAgg0
 z0 := Tryz.sizeOf0
 v0 := Tryz.zeroValue0
 t3 := Tryz.underlying3
 a3 := Tryz.isAgg3
 z3 := Tryz.sizeOf3
 v3 := Tryz.zeroValue3
 t4 := Tryz.underlying4
 a4 := Tryz.isAgg4
 z4 := Tryz.sizeOf4
 v4 := Tryz.zeroValue4
 t22 := Tryz.underlying24
 a22 := Tryz.isAgg24
 z22 := Tryz.sizeOf24
 v22 := Tryz.zeroValue24
 t25 := Tryz.underlying127
 a25 := Tryz.isAgg127
 z25 := Tryz.sizeOf127
 v25 := Tryz.zeroValue127 }
def Tryz.ins_ren : Go.Shelf.Ren := ⟨fun | 20 => 156 | n => n, fun | 24 => 40 | 22 => 24 | 3 => 3 | 25 => 141 | 4 => 4 | 0 => 0 | n => n, fun | n => n⟩
theorem Tryz.ins : Go.Proofs.SlLaysF0.n20 Tryz.prog Tryz.ins_ren := {
 mixed := by kernel_rfl
 f20 := ⟨Tryz.f156.name, by decide, Tryz.func156.trans (congrArg some (by kernel_rfl))⟩
 t0 := Tryz.underlying0
 a0 := Tryz.isAgg0
 z0 := Tryz.sizeOf0
 v0 := Tryz.zeroValue0
 t3 := Tryz.underlying3
 a3 := Tryz.isAgg3
 z3 := Tryz.sizeOf3
 v3 := Tryz.zeroValue3
 t4 := Tryz.underlying4
 a4 := Tryz.isAgg4
 z4 := Tryz.sizeOf4
 v4 := Tryz.zeroValue4
 t22 := Tryz.underlying24
 a22 := Tryz.isAgg24
 z22 := Tryz.sizeOf24
 v22 := Tryz.zeroValue24
 t25 := Tryz.underlying141
 a25 := Tryz.isAgg141
 z25 := Tryz.sizeOf141
 v25 := Tryz.zeroValue141 }
def Tryz.cmpInt_ren : Go.Shelf.Ren := ⟨fun | 5 => 108 | 7 => 138 | n => n, fun | 22 => 3 | 3 => 3 | 4 => 4 | n => n, fun | n => n⟩
theorem Tryz.cmpInt : Go.Proofs.SlLaysC2.n5 Tryz.prog Tryz.cmpInt_ren := {
 mixed := by kernel_rfl
 f5 := ⟨Tryz.f108.name, by decide, Tryz.func108.trans (congrArg some (by kernel_rfl))⟩
 f7 := ⟨Tryz.f138.name, by decide, Tryz.func138.trans (congrArg some (by kernel_rfl))⟩
 t3 := Tryz.underlying3
 a3 := Tryz.isAgg3
 z3 := Tryz.sizeOf3
 v3 := Tryz.zeroValue3
 t4 := Tryz.underlying4
 a4 := Tryz.isAgg4
 z4 := Tryz.sizeOf4
 v4 := Tryz.zeroValue4
 t22 := Tryz.underlying3
 a22 := Tryz.isAgg3
 z22 := Tryz.sizeOf3
 v22 := Tryz.zeroValue3 }
def Tryz.clone_ren : Go.Shelf.Ren := ⟨fun | 41 => 105 | n => n, fun | 22 => 24 | 23 => 40 | 4 => 4 | n => n, fun | n => n⟩
theorem Tryz.clone : Go.Proofs.SlLaysE0.n41 Tryz.prog Tryz.clone_ren := {
 mixed := by kernel_rfl
 f41 := ⟨Tryz.f105.name, by decide, Tryz.func105.trans (congrArg some (by kernel_rfl))⟩
 t4 := Tryz.underlying4
 a4 := Tryz.isAgg4
 z4 := Tryz.sizeOf4
 v4 := Tryz.zeroValue4
 t22 := Tryz.underlying24
 a22 := Tryz.isAgg24
 z22 := Tryz.sizeOf24
 v22 := Tryz.zeroValue24 }
end Go.Proofs
/- The library's stable sort at faults, walked: what the walks ask of the program; exchanges of two ranges; a rotation. -/
namespace Go.Proofs.YtalefbmoebobkaaGreatDoor
set_option maxRecDepth 100000
open Go.Shelf Go.RowKit Go.Lib Go.Sort Go.Proofs
def encF (x : Fa) : List Value := [.int .i64 x.1, .int .i64 x.2.1, .int .i64 x.2.2.1, .int .i64 x.2.2.2]
theorem encF_len (x : Fa) : (encF x).length = 4 := rfl
theorem encF_one (x : Fa) : ∀ v ∈ encF x, v.oneCell' = true := by
 intro v hv
 simp [encF] at hv
 rcases hv with rfl | rfl | rfl | rfl <;> rfl
structure Prg (P : Program) (k : Nat) : Prop where
 mixed : P.follows .mixedOrders = true
 t0 : P.underlying 0 = some (TypeDesc.tuple #[])
 a0 : ∀ w, Sem.run P (isAgg 0) w = .ok false w
 z0 : ∀ w, Sem.run P (Go.sizeOf 0) w = .ok 1 w
 v0 : ∀ w, Sem.run P (zeroValue 0) w = .ok (Value.tuple #[]) w
 t3 : P.underlying 3 = some (TypeDesc.int IntKind.i64)
 a3 : ∀ w, Sem.run P (isAgg 3) w = .ok false w
 z3 : ∀ w, Sem.run P (Go.sizeOf 3) w = .ok 1 w
 v3 : ∀ w, Sem.run P (zeroValue 3) w = .ok (Value.int .i64 0) w
 t4 : P.underlying 4 = some TypeDesc.bool
 a4 : ∀ w, Sem.run P (isAgg 4) w = .ok false w
 z4 : ∀ w, Sem.run P (Go.sizeOf 4) w = .ok 1 w
 v4 : ∀ w, Sem.run P (zeroValue 4) w = .ok (Value.bool false) w
 t22 : P.underlying 24 = some (TypeDesc.slice 40)
 a22 : ∀ w, Sem.run P (isAgg 24) w = .ok false w
 z22 : ∀ w, Sem.run P (Go.sizeOf 24) w = .ok 1 w
 v22 : ∀ w, Sem.run P (zeroValue 24) w = .ok (Value.slice none 0 0) w
 t48 : P.underlying 141 = some (TypeDesc.func #[40, 40] #[3] false)
 a48 : ∀ w, Sem.run P (isAgg 141) w = .ok false w
 z48 : ∀ w, Sem.run P (Go.sizeOf 141) w = .ok 1 w
 v48 : ∀ w, Sem.run P (zeroValue 141) w = .ok Value.nilFunc w
 t58 : P.underlying 156 = some (TypeDesc.int IntKind.u64)
 a58 : ∀ w, Sem.run P (isAgg 156) w = .ok false w
 z58 : ∀ w, Sem.run P (Go.sizeOf 156) w = .ok 1 w
 v58 : ∀ w, Sem.run P (zeroValue 156) w = .ok (Value.int .u64 0) w
 aF : ∀ w, Sem.run P (isAgg 40) w = .ok true w
 zF : ∀ w, Sem.run P (Go.sizeOf 40) w = .ok k w
 fSw : P.funcs[169]? = some Tryz.f169
 fRo : P.funcs[167]? = some Tryz.f167
 fSy : P.funcs[157]? = some Tryz.f157
theorem prgA : Prg Tryz.prog 4 where
 mixed := by kernel_rfl
 t0 := Tryz.underlying0
 a0 := Tryz.isAgg0
 z0 := Tryz.sizeOf0
 v0 := Tryz.zeroValue0
 t3 := Tryz.underlying3
 a3 := Tryz.isAgg3
 z3 := Tryz.sizeOf3
 v3 := Tryz.zeroValue3
 t4 := Tryz.underlying4
 a4 := Tryz.isAgg4
 z4 := Tryz.sizeOf4
 v4 := Tryz.zeroValue4
 t22 := Tryz.underlying24
 a22 := Tryz.isAgg24
 z22 := Tryz.sizeOf24
 v22 := Tryz.zeroValue24
 t48 := Tryz.underlying141
 a48 := Tryz.isAgg141
 z48 := Tryz.sizeOf141
 v48 := Tryz.zeroValue141
 t58 := Tryz.underlying156
 a58 := Tryz.isAgg156
 z58 := Tryz.sizeOf156
 v58 := Tryz.zeroValue156
 aF := Tryz.isAgg40
 zF := Tryz.sizeOf40
 fSw := Tryz.func169
 fRo := Tryz.func167
 fSy := Tryz.func157
set_option maxHeartbeats 4000000 in
set_option maxRecDepth 1000000 in
theorem sw_range {P : Program} {k : Nat} (L : Prg P k) (g : Nat) (cb : Array Value) (blk off cap a b n : Nat) (d0 d : Array Fa) (w0 w : World)
  (R : RowK encF k w0 blk off d0) (hs : d0.size = d.size) (S : SWK encF k w0 blk off d w) (hab : a + n ≤ b) (hb : b + n ≤ d.size) (hsz : d.size < 4611686018427387904) :
  Calls P 169 #[.slice (some ⟨blk, off, none⟩) d.size cap, .int .i64 a, .int .i64 b, .int .i64 n, .func (.func g) #[] cb] w fun e w' => e = .returned (.tuple #[]) ∧ SWK encF k w0 blk off (swr d a b n) w' := by
 have mixed := L.mixed; have t0 := L.t0; have a0 := L.a0; have z0 := L.z0; have v0 := L.v0; have t3 := L.t3; have a3 := L.a3; have z3 := L.z3; have v3 := L.v3; have t4 := L.t4; have a4 := L.a4; have z4 := L.z4; have v4 := L.v4; have t22 := L.t22; have a22 := L.a22; have z22 := L.z22; have v22 := L.v22; have t48 := L.t48; have a48 := L.a48; have z48 := L.z48; have v48 := L.v48
 have aE := L.aF; have zE := L.zF
 have FG := L.fSw
 have S0 : Aside (SWK encF k w0 blk off d w) := S
 clear S
 go_enter FG, Tryz.ntmps169
 go_wp2
 go_loopg [10] n (fun kx s10 wr => ∃ i : Nat, s10 = .int .i64 i ∧ i ≤ n ∧ n - i ≤ kx ∧ Aside (SWK encF k w0 blk off (swr d a b i) wr))
 case atStart => exact ⟨0, rfl, Nat.zero_le _, Nat.le_refl _, S0⟩
 case round =>
  clear S0
  obtain ⟨i, rfl, hi, hkx, S1⟩ := hrel
  by_cases hlt : i < n
  ·have hltz : (i : Int) < (n : Int) := by omega
   have hds : (swr d a b i).size = d.size := size_swr d a b i
   go_wp2_with fail
   have ea44 : ((a : Int) + (i : Int)).toNat = a + i := by omega
   have pa44 : (0 : Int) ≤ (a : Int) + (i : Int) := by omega
   have ba44 : (a : Int) + (i : Int) < (d.size : Int) := by omega
   have ra44 : IntKind.i64.wrap ((a : Int) + (i : Int)) = (a : Int) + (i : Int) := by rw [IntKind.wrap_i64]; omega
   have ec44 : ((b : Int) + (i : Int)).toNat = b + i := by omega
   have pc44 : (0 : Int) ≤ (b : Int) + (i : Int) := by omega
   have bc44 : (b : Int) + (i : Int) < (d.size : Int) := by omega
   have rc44 : IntKind.i64.wrap ((b : Int) + (i : Int)) = (b : Int) + (i : Int) := by rw [IntKind.wrap_i64]; omega
   have S2 : Aside (SWK encF k w0 blk off (swr d a b (i + 1)) ((wr.drew.setCells blk (off + (a + i) * k) (encF (swr d a b i)[b + i]!)).setCells blk (off + (b + i) * k) (encF (swr d a b i)[a + i]!))) := S1.out.swapped R (a + i) (b + i) (by omega) (by omega)
   have l44a := S1.out.ld1 R (by omega) P (a + i) (by omega)
   have l44b := S1.out.ld1 R (by omega) P (b + i) (by omega)
   have s44a := S1.out.st1 R (by omega) P (a + i) (by omega) (swr d a b i)[b + i]!
   have s44b := S1.out.st2 R (by omega) P (a + i) (b + i) (by omega) (by omega) (swr d a b i)[b + i]! (swr d a b i)[a + i]!
   have n44a : (encF (swr d a b i)[a + i]!).length = k := R.hk _
   have n44b : (encF (swr d a b i)[b + i]!).length = k := R.hk _
   generalize encF (swr d a b i)[a + i]! = cI44 at S2 l44a s44b n44a
   generalize encF (swr d a b i)[b + i]! = cJ44 at S2 l44b s44a s44b n44b
   clear S1
   go_wp2_with fail
   go_big_region_o
   clear l44a l44b s44a s44b
   generalize (wr.drew.setCells blk (off + (a + i) * k) cJ44).setCells blk (off + (b + i) * k) cI44 = w2 at S2 ⊢
   go_wp2
   go_roundg (n - (i + 1))
   case measure => omega
   case rel => exact ⟨i + 1, by go_num, by omega, Nat.le_refl _, S2⟩
  ·obtain rfl : i = n := by omega
   go_wp2
   go_end0
   exact ⟨rfl, S1.out⟩
theorem sw_rangeI {P : Program} {k : Nat} (L : Prg P k) (g : Nat) (cb : Array Value) (blk off cap a b n : Nat) (az bz nz : Int) (ea : az = a) (eb : bz = b) (en : nz = n) (d0 d : Array Fa) (w0 w : World)
  (R : RowK encF k w0 blk off d0) (hs : d0.size = d.size) (S : SWK encF k w0 blk off d w) (hab : a + n ≤ b) (hb : b + n ≤ d.size) (hsz : d.size < 4611686018427387904) :
  Calls P 169 #[.slice (some ⟨blk, off, none⟩) d.size cap, .int .i64 az, .int .i64 bz, .int .i64 nz, .func (.func g) #[] cb] w fun e w' => e = .returned (.tuple #[]) ∧ SWK encF k w0 blk off (swr d a b n) w' := by
 subst ea eb en
 exact sw_range L g cb blk off cap a b n d0 d w0 w R hs S hab hb hsz
def RoL (F : List Fa) (m x y : Nat) (dk : Array Fa) : Prop := ∃ A X Y B : List Fa, dk.toList = A ++ X ++ Y ++ B ∧ x = X.length ∧ y = Y.length ∧ m = A.length + X.length ∧ F = A ++ Y ++ X ++ B
theorem RoL.more {F : List Fa} {m x y : Nat} {dk : Array Fa} (h : RoL F m x y dk) (hxy : y < x) : RoL F m (x - y) y (swr dk (m - x) m y) := by
 obtain ⟨A, X, Y, B, h, rfl, rfl, rfl, rfl⟩ := h
 have e := List.take_append_drop Y.length X
 have l1 : (X.take Y.length).length = Y.length := by rw [List.length_take]; omega
 have l2 : (X.drop Y.length).length = X.length - Y.length := List.length_drop
 generalize X.take Y.length = X1 at e l1
 generalize X.drop Y.length = X2 at e l2
 subst e
 have h2 := swr_all (d := dk) (A := A) (X := X1) (M := X2) (Y := Y) (B := B) (a := A.length + (X1 ++ X2).length - (X1 ++ X2).length) (b := A.length + (X1 ++ X2).length) (n := Y.length) (by rw [h]; simp) (by omega) (by simp; omega) l1.symm l1
 refine ⟨A ++ Y, X2, X1, B, by rw [h2], by simp at l2 ⊢; omega, l1.symm, by simp; omega, by simp⟩
theorem RoL.less {F : List Fa} {m x y : Nat} {dk : Array Fa} (h : RoL F m x y dk) (hxy : x < y) : RoL F m x (y - x) (swr dk (m - x) (m + y - x) x) := by
 obtain ⟨A, X, Y, B, h, rfl, rfl, rfl, rfl⟩ := h
 have e := List.take_append_drop (Y.length - X.length) Y
 have l1 : (Y.take (Y.length - X.length)).length = Y.length - X.length := by rw [List.length_take]; omega
 have l2 : (Y.drop (Y.length - X.length)).length = X.length := by rw [List.length_drop]; omega
 generalize Y.take (Y.length - X.length) = Y1 at e l1
 generalize Y.drop (Y.length - X.length) = Y2 at e l2
 subst e
 have h2 := swr_all (d := dk) (A := A) (X := X) (M := Y1) (Y := Y2) (B := B) (a := A.length + X.length - X.length) (b := A.length + X.length + (Y1 ++ Y2).length - X.length) (n := X.length) (by rw [h]; simp) (by omega) (by simp at l1 ⊢; omega) rfl l2.symm
 refine ⟨A, Y2, Y1, X ++ B, by rw [h2]; simp, l2.symm, by simp at l1 ⊢; omega, by omega, by simp⟩
theorem RoL.last {F : List Fa} {m x : Nat} {dk : Array Fa} (h : RoL F m x x dk) : (swr dk (m - x) m x).toList = F := by
 obtain ⟨A, X, Y, B, h, rfl, hy, rfl, rfl⟩ := h
 have h2 := swr_all (d := dk) (A := A) (X := X) (M := []) (Y := Y) (B := B) (a := A.length + X.length - X.length) (b := A.length + X.length) (n := X.length) (by rw [h]; simp) (by omega) (by simp) rfl hy
 rw [h2]; simp
set_option maxHeartbeats 4000000 in
set_option maxRecDepth 1000000 in
theorem sw_rotate {P : Program} {k : Nat} (L : Prg P k) (g : Nat) (cb : Array Value) (blk off cap a m b : Nat) (d0 d : Array Fa) (F : List Fa) (w0 w : World)
  (R : RowK encF k w0 blk off d0) (hs : d0.size = d.size) (S : SWK encF k w0 blk off d w) (ham : a < m) (hmb : m < b) (hb : b ≤ d.size) (hsz : d.size < 4611686018427387904) (hF : RoL F m (m - a) (b - m) d) :
  Calls P 167 #[.slice (some ⟨blk, off, none⟩) d.size cap, .int .i64 a, .int .i64 m, .int .i64 b, .func (.func g) #[] cb] w fun e w' => e = .returned (.tuple #[]) ∧ ∃ d' : Array Fa, d'.size = d.size ∧ d'.toList = F ∧ SWK encF k w0 blk off d' w' := by
 have mixed := L.mixed; have t0 := L.t0; have a0 := L.a0; have z0 := L.z0; have v0 := L.v0; have t3 := L.t3; have a3 := L.a3; have z3 := L.z3; have v3 := L.v3; have t4 := L.t4; have a4 := L.a4; have z4 := L.z4; have v4 := L.v4; have t22 := L.t22; have a22 := L.a22; have z22 := L.z22; have v22 := L.v22; have t48 := L.t48; have a48 := L.a48; have z48 := L.z48; have v48 := L.v48
 have FG := L.fRo
 have eSw : ∀ args w, (callFunc 169 args).run P w = .ok (.enter 169 args) w := enters_of L.fSw (by kernel_rfl) rfl
 have S0 : Aside (SWK encF k w0 blk off d w) := S
 have HF : Aside (RoL F m (m - a) (b - m) d) := hF
 clear S hF
 go_enter FG, Tryz.ntmps167
 go_wp2
 go_loopg [10, 11] (b - a) (fun kx s10 s11 wr => ∃ (x y : Nat) (dk : Array Fa), s10 = .int .i64 x ∧ s11 = .int .i64 y ∧ 1 ≤ x ∧ 1 ≤ y ∧ x ≤ m - a ∧ y ≤ b - m ∧ x + y ≤ kx ∧ dk.size = d.size ∧ Aside (SWK encF k w0 blk off dk wr) ∧ Aside (RoL F m x y dk))
 case atStart => exact ⟨m - a, b - m, d, by go_num, by go_num, by omega, by omega, by omega, by omega, by omega, rfl, S0, HF⟩
 case round =>
  clear S0 HF
  obtain ⟨x, y, dk, rfl, rfl, hx1, hy1, hxm, hyb, hkx, hds, S1, H1⟩ := hrel
  rcases Nat.lt_trichotomy x y with hlt | heq | hgt
  ·have h1z : ¬ (x : Int) = (y : Int) := by omega
   have h2z : ¬ (y : Int) < (x : Int) := by omega
   have hcall := sw_rangeI L g cb blk off cap (m - x) (m + y - x) x ((m : Int) - (x : Int)) ((m : Int) + (y : Int) - (x : Int)) x (by omega) (by omega) rfl d0 dk w0 wr R (by omega) S1.out (by omega) (by omega) (by omega)
   rw [hds] at hcall
   have H2 : Aside (RoL F m x (y - x) (swr dk (m - x) (m + y - x) x)) := H1.out.less hlt
   have hz2 : (swr dk (m - x) (m + y - x) x).size = d.size := by rw [size_swr, hds]
   clear S1 H1
   generalize swr dk (m - x) (m + y - x) x = d2 at hcall H2 hz2
   go_wp2_with (go_at_fn 169; refine hcall.mono ?_; rintro e w1 ⟨rfl, S3⟩)
   go_roundg y
   case measure => omega
   case rel => exact ⟨x, y - x, d2, rfl, by go_num, hx1, by omega, hxm, by omega, by omega, hz2, S3, H2⟩
  ·subst heq
   have hcall := sw_rangeI L g cb blk off cap (m - x) m x ((m : Int) - (x : Int)) m x (by omega) rfl rfl d0 dk w0 wr R (by omega) S1.out (by omega) (by omega) (by omega)
   rw [hds] at hcall
   have H2 : Aside ((swr dk (m - x) m x).toList = F) := H1.out.last
   have hz2 : (swr dk (m - x) m x).size = d.size := by rw [size_swr, hds]
   clear S1 H1
   generalize swr dk (m - x) m x = d2 at hcall H2 hz2
   go_wp2_with (go_at_fn 169; refine hcall.mono ?_; rintro e w1 ⟨rfl, S3⟩)
   go_end0
   exact ⟨rfl, d2, hz2, H2.out, S3⟩
  ·have h1z : ¬ (x : Int) = (y : Int) := by omega
   have h2z : (y : Int) < (x : Int) := by omega
   have hcall := sw_rangeI L g cb blk off cap (m - x) m y ((m : Int) - (x : Int)) m y (by omega) rfl rfl d0 dk w0 wr R (by omega) S1.out (by omega) (by omega) (by omega)
   rw [hds] at hcall
   have H2 : Aside (RoL F m (x - y) y (swr dk (m - x) m y)) := H1.out.more hgt
   have hz2 : (swr dk (m - x) m y).size = d.size := by rw [size_swr, hds]
   clear S1 H1
   generalize swr dk (m - x) m y = d2 at hcall H2 hz2
   go_wp2_with (go_at_fn 169; refine hcall.mono ?_; rintro e w1 ⟨rfl, S3⟩)
   go_roundg x
   case measure => omega
   case rel => exact ⟨x - y, y, d2, by go_num, rfl, by omega, hy1, by omega, hyb, by omega, hz2, S3, H2⟩
end Go.Proofs.YtalefbmoebobkaaGreatDoor
/- Package fault and its reference, walked: which kinds fit; rests; pages with a bit turned. -/
namespace Go.Proofs.YtalefbmoebobkaaGreatDoor
set_option maxRecDepth 100000
open Go.RowKit
def fitsB (k op : Int) : Bool := decide ((1 ≤ op ∧ op ≤ 5) ∧ (k = 1 ∨ (k = 2 ∧ ¬ op = 1) ∨ (k = 3 ∧ op = 1)))
theorem fa_fits (k op : Int) (w : World) : Calls Tryz.prog 122 #[.int .i64 k, .int .i64 op] w fun r w' => r = .returned (.bool (fitsB k op)) ∧ w = w' := by
 unfold fitsB
 go_enter Tryz.func122, Tryz.ntmps122
 go_wp2
 all_goals go_ret
 all_goals exact ⟨ret_bool (by (try simp only [beq_iff_eq, beq_eq_false_iff_ne, ne_eq] at *); rw [Bool.eq_iff_iff]; simp; try omega), rfl⟩
theorem rfa_fits (k op : Int) (w : World) : Calls Tryz.prog 81 #[.int .i64 k, .int .i64 op] w fun r w' => r = .returned (.bool (fitsB k op)) ∧ w = w' := by
 unfold fitsB
 go_enter Tryz.func81, Tryz.ntmps81
 go_wp2
 all_goals go_ret
 all_goals exact ⟨ret_bool (by (try simp only [beq_iff_eq, beq_eq_false_iff_ne, ne_eq] at *); rw [Bool.eq_iff_iff]; simp; try omega), rfl⟩
theorem fa_rest (n by' : Int) (w : World) (h0 : 0 < by') (h1 : by' ≤ 100000) : Calls Tryz.prog 79 #[.int .i64 n, .int .i64 by'] w fun r w' => r = .returned (.int .i64 (n % by')) ∧ w = w' := by
 have hm := Int.tmod_eq_emod (a := n) (b := by')
 have hlt := Int.emod_lt_of_pos n h0
 have hge := Int.emod_nonneg n (b := by') (by omega)
 have hab : (by'.natAbs : Int) = by' := by omega
 obtain ⟨x, hx⟩ : ∃ x, n.tmod by' = x := ⟨_, rfl⟩
 obtain ⟨y, hy⟩ : ∃ y, n % by' = y := ⟨_, rfl⟩
 rw [hx, hy] at hm
 rw [hy] at hlt hge ⊢
 have hb' : by' ≠ 0 := by omega
 have hxy : x = y ∨ x = y - by' := by
  by_cases hc : 0 ≤ n ∨ by' ∣ n
  ·rw [if_pos hc] at hm; omega
  ·rw [if_neg hc, hab] at hm; omega
 have hlo : -100000 ≤ x := by omega
 have hhi : x ≤ 100000 := by omega
 have hz : (x + by').tmod by' = y := by
  rw [Int.tmod_eq_emod_of_nonneg (by omega)]
  rcases hxy with rfl | rfl
  ·rw [Int.add_emod_right, Int.emod_eq_of_lt hge hlt]
  ·rw [show y - by' + by' = y by omega, Int.emod_eq_of_lt hge hlt]
 clear hm hxy
 go_enter Tryz.func79, Tryz.ntmps79
 go_wp2
 go_ret
 exact ⟨rfl, rfl⟩
theorem rfa_rest (n by' : Int) (w : World) (h0 : 0 < by') (h1 : by' ≤ 100000) : Calls Tryz.prog 84 #[.int .i64 n, .int .i64 by'] w fun r w' => r = .returned (.int .i64 (n % by')) ∧ w = w' := by
 have hm := Int.tmod_eq_emod (a := n) (b := by')
 have hlt := Int.emod_lt_of_pos n h0
 have hge := Int.emod_nonneg n (b := by') (by omega)
 have hab : (by'.natAbs : Int) = by' := by omega
 obtain ⟨x, hx⟩ : ∃ x, n.tmod by' = x := ⟨_, rfl⟩
 obtain ⟨y, hy⟩ : ∃ y, n % by' = y := ⟨_, rfl⟩
 rw [hx, hy] at hm
 rw [hy] at hlt hge ⊢
 have hb' : by' ≠ 0 := by omega
 have hxy : (x < 0 → x + by' = y) ∧ (¬ x < 0 → x = y) := by
  by_cases hc : 0 ≤ n ∨ by' ∣ n
  ·rw [if_pos hc] at hm; omega
  ·rw [if_neg hc, hab] at hm; omega
 by_cases hneg : x < 0
 ·have hxy2 := hxy.1 hneg
  have hlo : -100000 ≤ x := by omega
  clear hm hy hxy
  go_enter Tryz.func84, Tryz.ntmps84
  go_wp2
  go_ret
  exact ⟨rfl, rfl⟩
 ·have hxy2 := hxy.2 hneg
  clear hm hy hxy
  subst hxy2
  go_enter Tryz.func84, Tryz.ntmps84
  go_wp2
  go_ret
  exact ⟨rfl, rfl⟩
def bitF (s : ByteArray) (x : Fa) : Nat := (x.2.2.1 % (8 * (s.size : Int))).toNat
theorem bitF_lt (s : ByteArray) (x : Fa) (h : 0 < s.size) : bitF s x < 8 * s.size := by
 have h1 := Int.emod_lt_of_pos x.2.2.1 (b := 8 * (s.size : Int)) (by omega)
 unfold bitF; omega
theorem bitF_int (s : ByteArray) (x : Fa) (h : 0 < s.size) : x.2.2.1 % (8 * (s.size : Int)) = (bitF s x : Int) := by
 have h1 := Int.emod_nonneg x.2.2.1 (b := 8 * (s.size : Int)) (by omega)
 unfold bitF; omega
def flipF (s : ByteArray) (x : Fa) : ByteArray := if s.size = 0 then ByteArray.empty else flipS s (bitF s x / 8) (bitF s x % 8)
theorem empty_of_size {s : ByteArray} (h : s.size = 0) : s = ByteArray.empty := by
 cases s with
 | mk d =>
  have : d.size = 0 := h
  rw [Array.eq_empty_of_size_eq_zero this]; rfl
theorem text_fullF {q : ByteArray} (h : ¬ q = ByteArray.empty) : q.toList.isEmpty = false := by
 rw [ByteArray.toList_eq]
 cases hq : q.data.toList with
 | nil =>
  exfalso
  apply h
  obtain ⟨d⟩ := q
  simp at hq
  subst hq
  rfl
 | cons => rfl
theorem fa_turned (s : ByteArray) (k : Nat) (w : World) (hm : s.size ≤ 1000) (hk : k / 8 < s.size) :
  Calls Tryz.prog 78 #[.string s, .int .i64 k] w fun e w' => e = .returned (.tuple #[.string (flipS s (k / 8) (k % 8)), .int .i64 0]) ∧ Below w.heap.size w w' := by
 have h := flip_yes s (k / 8) (k % 8) w hm hk (by omega)
 rwa [show 8 * ((k / 8 : Nat) : Int) + ((k % 8 : Nat) : Int) = (k : Int) by omega] at h
theorem rfa_turned (s : ByteArray) (k : Nat) (w : World) (hm : s.size ≤ 1000) (hk : k / 8 < s.size) :
  Calls Tryz.prog 83 #[.string s, .int .i64 k] w fun e w' => e = .returned (.tuple #[.string (flipS s (k / 8) (k % 8)), .int .i64 0]) ∧ Below w.heap.size w w' := by
 have h := rflip_yes s (k / 8) (k % 8) w hm hk (by omega)
 rwa [show 8 * ((k / 8 : Nat) : Int) + ((k % 8 : Nat) : Int) = (k : Int) by omega] at h
theorem fa_flipped (s : ByteArray) (x : Fa) (w : World) (hm : s.size ≤ 1000) :
  Calls Tryz.prog 33 #[.string s, .agg (encF x).toArray] w fun e w' => e = .returned (.string (flipF s x)) ∧ Below w.heap.size w w' := by
 obtain ⟨x1, x2, x3, x4⟩ := x
 simp only [encF]
 unfold flipF
 by_cases h0 : s.size = 0
 ·rw [if_pos h0, empty_of_size h0]
  go_enter Tryz.func33, Tryz.ntmps33
  go_wp2
  go_ret
  exact ⟨rfl, (Below.refl _ _).alloc (Nat.le_refl _) _⟩
 ·rw [if_neg h0]
  have hb := bitF_lt s (x1, x2, x3, x4) (by omega)
  have hi := bitF_int s (x1, x2, x3, x4) (by omega)
  have hr := fa_rest x3 (8 * (s.size : Int))
  obtain ⟨q, hq⟩ : ∃ q, bitF s (x1, x2, x3, x4) = q := ⟨_, rfl⟩
  rw [hq] at hb hi ⊢
  simp only at hi
  have HI : Hid (x3 % (8 * (s.size : Int)) = (q : Int)) := hi
  have hne : ¬ s = ByteArray.empty := fun e => h0 (by rw [e]; rfl)
  have hemp := text_fullF hne
  clear hq hi
  go_enter Tryz.func33, Tryz.ntmps33
  go_wp2_with fail
  refine (hr _ (by omega) (by omega)).mono ?_
  rintro r w1 ⟨rfl, rfl⟩
  rw [HI.out]
  clear hr
  go_wp2_with fail
  refine (fa_turned s q _ hm (by omega)).mono ?_
  rintro r w1 ⟨rfl, hb1⟩
  have HB1 : Hid (Below w.heap.size w w1) := ((Below.refl _ w).alloc (Nat.le_refl _) _).trans (hb1.mono (by simp))
  clear hb1
  go_wp2
  go_ret
  exact ⟨rfl, HB1.out⟩
theorem rfa_flipped (s : ByteArray) (x : Fa) (w : World) (hm : s.size ≤ 1000) :
  Calls Tryz.prog 39 #[.string s, .agg (encF x).toArray] w fun e w' => e = .returned (.string (flipF s x)) ∧ Below w.heap.size w w' := by
 obtain ⟨x1, x2, x3, x4⟩ := x
 simp only [encF]
 unfold flipF
 by_cases h0 : s.size = 0
 ·rw [if_pos h0, empty_of_size h0]
  go_enter Tryz.func39, Tryz.ntmps39
  go_wp2
  go_ret
  exact ⟨rfl, (Below.refl _ _).alloc (Nat.le_refl _) _⟩
 ·rw [if_neg h0]
  have hb := bitF_lt s (x1, x2, x3, x4) (by omega)
  have hi := bitF_int s (x1, x2, x3, x4) (by omega)
  have hr := rfa_rest x3 (8 * (s.size : Int))
  obtain ⟨q, hq⟩ : ∃ q, bitF s (x1, x2, x3, x4) = q := ⟨_, rfl⟩
  rw [hq] at hb hi ⊢
  simp only at hi
  have HI : Hid (x3 % (8 * (s.size : Int)) = (q : Int)) := hi
  have hne : ¬ s = ByteArray.empty := fun e => h0 (by rw [e]; rfl)
  have hemp := text_fullF hne
  clear hq hi
  go_enter Tryz.func39, Tryz.ntmps39
  go_wp2_with fail
  refine (hr _ (by omega) (by omega)).mono ?_
  rintro r w1 ⟨rfl, rfl⟩
  rw [HI.out]
  clear hr
  go_wp2_with fail
  refine (rfa_turned s q _ hm (by omega)).mono ?_
  rintro r w1 ⟨rfl, hb1⟩
  have HB1 : Hid (Below w.heap.size w w1) := ((Below.refl _ w).alloc (Nat.le_refl _) _).trans (hb1.mono (by simp))
  clear hb1
  go_wp2
  go_ret
  exact ⟨rfl, HB1.out⟩
end Go.Proofs.YtalefbmoebobkaaGreatDoor
/- Package fault, walked: slices of faults; which of them an operation meets. -/
namespace Go.Proofs.YtalefbmoebobkaaGreatDoor
set_option maxRecDepth 100000
open Go.RowKit Go.Shelf Go.Proofs
def FsAt (w : World) (oa : Option Addr) (l : List Fa) : Prop := l ≠ [] → ∃ b off, oa = some ⟨b, off, none⟩ ∧ b < w.heap.size ∧ ∀ i (hi : i < l.length), w.rangeAt b (off + i * 4) (encF l[i])
theorem FsAt.below {w w' : World} {oa : Option Addr} {l : List Fa} (h : FsAt w oa l) (hb : Below w.heap.size w w') : FsAt w' oa l := by
 intro hl
 obtain ⟨b, off, ho, hlt, hc⟩ := h hl
 refine ⟨b, off, ho, Nat.lt_of_lt_of_le hlt hb.size, fun i hi j v hj => ?_⟩
 rw [World.cell?_of_block (w := w) (hb.block b hlt)]
 exact hc i hi j v hj
theorem FsAt.nil (w : World) (oa : Option Addr) : FsAt w oa [] := fun h => absurd rfl h
theorem size_faF : (Tryz.prog.info? 40).map (·.size) = some 4 := by kernel_rfl
theorem encF_all (x : Fa) : (encF x).toArray.all (·.oneCell') = true := by
 rw [Array.all_eq_true_iff_forall_mem]
 intro v hv
 exact encF_one x v (by simpa using hv)
def f0 : Fa := (0, 0, 0, 0)
def hitB (t op : Int) (x : Fa) : Bool := decide (x.1 = t) && fitsB x.2.1 op
theorem pred_meets (t op : Int) (B1 B2 : Nat) (w : World) (h1 : B1 < w.heap.size) (h2 : B2 < w.heap.size) (c1 : w.cell? ⟨B1, 0, none⟩ = some (.int .i64 t)) (c2 : w.cell? ⟨B2, 0, none⟩ = some (.int .i64 op)) :
  PredBelow Tryz.prog 121 #[.pointer (some ⟨B1, 0, none⟩), .pointer (some ⟨B2, 0, none⟩)] (fun x => .agg (encF x).toArray) (hitB t op) w := fun W x hb => by
 obtain ⟨x1, x2, x3, x4⟩ := x
 have d1 : W.cell? ⟨B1, 0, none⟩ = some (.int .i64 t) := (hb.cell (p := ⟨B1, 0, none⟩) h1).trans c1
 have d2 : W.cell? ⟨B2, 0, none⟩ = some (.int .i64 op) := (hb.cell (p := ⟨B2, 0, none⟩) h2).trans c2
 have l1 : B1 < W.heap.size := Nat.lt_of_lt_of_le h1 hb.size
 have l2 : B2 < W.heap.size := Nat.lt_of_lt_of_le h2 hb.size
 have n1 : B1 ≠ W.heap.size := by omega
 have n2 : B2 ≠ W.heap.size := by omega
 have HB : Hid (Below w.heap.size w W) := hb
 unfold hitB
 show Calls Tryz.prog 121 #[.agg #[.int .i64 x1, .int .i64 x2, .int .i64 x3, .int .i64 x4], .pointer (some ⟨B1, 0, none⟩), .pointer (some ⟨B2, 0, none⟩)] W _
 clear c1 c2 h1 h2 hb
 by_cases ht : x1 = t
 ·have htb : (x1 == t) = true := by simpa using ht
  have htd : decide (x1 = t) = true := by simpa using ht
  have HT : Hid (x1 = t) := ht
  simp only [htd]; clear ht
  go_enter Tryz.func121, Tryz.ntmps121
  go_wp2_with fail
  refine (fa_fits _ _ _).mono ?_
  rintro r w1 ⟨rfl, rfl⟩
  go_wp2_with fail
  go_ret
  exact ⟨by simp, HB.out.alloc HB.out.size _⟩
 ·have htb : (x1 == t) = false := by simpa using ht
  have htd : decide (x1 = t) = false := by simpa using ht
  simp only [htd]
  go_enter Tryz.func121, Tryz.ntmps121
  go_wp2
  go_ret
  exact ⟨by simp, HB.out.alloc HB.out.size _⟩
theorem idx_find (p : Fa → Bool) (l : List Fa) : (l.find? p = none ∧ Lib.idxBy (fun _ y => p y) (l.take l.length) default = -1) ∨ ∃ j, ∃ hj : j < l.length, l.find? p = some l[j] ∧ p l[j] = true ∧ Lib.idxBy (fun _ y => p y) (l.take l.length) default = (j : Int) := by
 cases h : l.find? p with
 | none =>
  refine Or.inl ⟨rfl, Lib.idxBy_miss (fun _ y => p y) l l.length default fun j hj => ?_⟩
  have := List.find?_eq_none.1 h l[j] (List.getElem_mem hj)
  rw [getElem!_pos l j hj]
  simpa using this
 | some b =>
  obtain ⟨h1, j, hj, hb, hm⟩ := List.find?_eq_some_iff_getElem.1 h
  refine Or.inr ⟨j, hj, by rw [hb], by rw [hb]; exact h1, Lib.idxBy_hit (fun _ y => p y) l l.length j default hj (Nat.le_refl _) ?_ fun i hi => ?_⟩
  ·show p l[j]! = true
   rw [getElem!_pos l j hj, hb]; exact h1
  ·show p l[i]! = false
   rw [getElem!_pos l i (by omega)]
   simpa using hm i hi
def meetF (l : List Fa) (t op : Int) : Option Fa := l.find? (hitB t op)
def meetV (o : Option Fa) : Array Value := #[.agg (encF (o.getD f0)).toArray, .bool o.isSome]
theorem fa_index (p : Fa → Bool) (g : Nat) (lb : Array Value) (eg : ∀ args w, (callFunc g args).run Tryz.prog w = .ok (.enter g args) w) (oa : Option Addr) (cap : Nat) (l : List Fa) (hl : l.length ≤ maxLen) (w : World) (ha : FsAt w oa l)
  (hp : PredBelow Tryz.prog g lb (fun x => .agg (encF x).toArray) p w) :
  Calls Tryz.prog 120 #[.slice oa l.length cap, .func (.func g) #[] lb] w fun e w' => e = .returned (.int .i64 (Lib.idxBy (fun _ y => p y) (l.take l.length) default)) ∧ Below w.heap.size w w' := by
 by_cases h0 : l = []
 ·subst h0
  show Calls Tryz.prog _ #[.slice oa 0 cap, .func (.func g) #[] lb] w fun e w' => e = .returned (.int .i64 (-1)) ∧ Below w.heap.size w w'
  clear ha hp
  go_enter Tryz.func120, Tryz.ntmps120
  go_wp2
  refine wp_loop_rounds 1 ?_
  rw [rounds_succ]
  go_wp2
  go_ret
  exact ⟨rfl, Below.refl _ _⟩
 ·obtain ⟨b, off, rfl, hb, hc⟩ := ha h0
  have h := AnyQ.slices_IndexFunc Tryz.idxf 4 Tryz.isAgg40 Tryz.sizeOf40 encF encF_len p g lb eg b off l.length cap l w hp (Nat.le_refl _) (by unfold maxLen at hl; omega) hb (fun j hj i v hv => by
   rw [getElem!_pos l j hj] at hv
   exact hc j hj i v hv)
  exact h
set_option maxHeartbeats 1000000 in
theorem fa_meets (oa : Option Addr) (cap : Nat) (l : List Fa) (hl : l.length ≤ maxLen) (t op : Int) (w : World) (ha : FsAt w oa l) :
  Calls Tryz.prog 75 #[.slice oa l.length cap, .int .i64 t, .int .i64 op] w fun e w' => e = .returned (.tuple (meetV (meetF l t op))) ∧ Below w.heap.size w w' := by
 have eg : ∀ args w, (callFunc 121 args).run Tryz.prog w = .ok (.enter 121 args) w := enters_of Tryz.func121 (by kernel_rfl) rfl
 obtain ⟨w3, hw3⟩ : ∃ w3, ((w.alloc (.cells #[.int .i64 t] 3)).alloc (.cells #[.int .i64 op] 3)).alloc (.cells (encF f0).toArray 40) = w3 := ⟨_, rfl⟩
 have b3 : Below w.heap.size w w3 := by rw [← hw3]; exact (((Below.refl _ w).alloc (Nat.le_refl _) _).alloc (by simp) _).alloc (by simp; omega) _
 have k3 : Blk w3 (w.heap.size + 1 + 1) (encF f0).toArray 40 := by
  rw [← hw3]
  have := Blk.new ((w.alloc (.cells #[.int .i64 t] 3)).alloc (.cells #[.int .i64 op] 3)) (encF f0).toArray 40
  simpa using this
 have k1 : Blk w3 w.heap.size #[.int .i64 t] 3 := by rw [← hw3]; exact ((Blk.new w _ _).alloc _).alloc _
 have k2 : Blk w3 (w.heap.size + 1) #[.int .i64 op] 3 := by
  rw [← hw3]
  have := (Blk.new (w.alloc (.cells #[.int .i64 t] 3)) #[.int .i64 op] 3).alloc (.cells (encF f0).toArray 40)
  simpa using this
 have hp := pred_meets t op w.heap.size (w.heap.size + 1) w3 k1.lt k2.lt (k1.cell 0) (k2.cell 0)
 have hcon := fa_index (hitB t op) 121 _ eg oa cap l hl w3 (ha.below b3) hp
 have B3 := Lib.hid b3
 have K3 := Lib.hid k3
 have HW := Lib.hid hw3
 have HA := Lib.hid ha
 have hl2 : (l.length : Int) ≤ 9223372036854775807 := by unfold maxLen at hl; omega
 clear b3 k3 k1 k2 hw3 ha hp eg hl
 unfold meetF
 rcases idx_find (hitB t op) l with ⟨hn, hi⟩ | ⟨j, hj, hn, _, hi⟩
 ·rw [hi] at hcon
  rw [hn]
  clear hi hn
  go_enter Tryz.func75, Tryz.ntmps75
  go_wp2_with fail
  change Calls _ _ _ (((w.alloc (.cells #[.int .i64 t] 3)).alloc (.cells #[.int .i64 op] 3)).alloc (.cells (encF f0).toArray 40)) _
  rw [HW.out]
  refine hcon.mono ?_
  rintro r w4 ⟨rfl, hb4⟩
  have HB4 := Lib.hid (B3.out.trans (hb4.mono B3.out.size))
  have K4 := Lib.hid (K3.out.after hb4)
  clear hb4 hcon
  go_wp2_with (refine wpList_store_row rfl 40 (.tmp 6) (.tmp 14) rfl (w.heap.size + 1 + 1) (encF f0).toArray rfl rfl 40 (encF f0).toArray K4.out size_faF rfl (encF_all _) ?_)
  exact bodyPost_ret (results_cell_tmp (P := Tryz.prog) rfl _ _ (w.heap.size + 1 + 1) 40 (encF f0).toArray _ rfl (K4.out.put _) Tryz.underlying40 rfl size_faF) rfl ⟨rfl, below_put (by omega) _ HB4.out⟩
 ·rw [hi] at hcon
  rw [hn]
  have hl0 : l ≠ [] := fun e => by rw [e] at hj; exact absurd hj (Nat.not_lt_zero j)
  obtain ⟨b, off, rfl, hb, hc⟩ := HA.out hl0
  have hr : w.rangeAt b (off + j * 4) (encF l[j]) := hc j hj
  obtain ⟨n, hn2⟩ : ∃ n, l.length = n := ⟨_, rfl⟩
  rw [hn2] at hj hcon hl2 ⊢
  have hji : (j : Int) < (n : Int) := by omega
  generalize l[j] = x at hr ⊢
  have HR := Lib.hid hr
  have HN := Lib.hid hn2
  clear hi hn hc hr hn2 hl0 HA
  go_enter Tryz.func75, Tryz.ntmps75
  go_wp2_with fail
  change Calls _ _ _ (((w.alloc (.cells #[.int .i64 t] 3)).alloc (.cells #[.int .i64 op] 3)).alloc (.cells (encF f0).toArray 40)) _
  rw [HW.out]
  refine hcon.mono ?_
  rintro r w4 ⟨rfl, hb4⟩
  have HB4 := Lib.hid (B3.out.trans (hb4.mono B3.out.size))
  have K4 := Lib.hid (K3.out.after hb4)
  have HR4 : Hid (w4.rangeAt b (off + j * 4) (encF x)) := fun i v hv => by
   rw [World.cell?_of_block (w := w) (HB4.out.block b hb)]; exact HR.out i v hv
  clear hb4 hcon
  go_wp2_with (first
   | (refine wpList_load_mid rfl 40 (.tmp 17) rfl b (off + j * 4) rfl (encF x) _ HR4.out Tryz.underlying40 rfl size_faF ?_)
   | (refine wpList_store_row rfl 40 (.tmp 6) (.tmp 18) rfl (w.heap.size + 1 + 1) (encF x).toArray rfl rfl 40 (encF f0).toArray K4.out size_faF rfl (encF_all _) ?_))
  exact bodyPost_ret (results_cell_tmp (P := Tryz.prog) rfl _ _ (w.heap.size + 1 + 1) 40 (encF x).toArray _ rfl (K4.out.put _) Tryz.underlying40 rfl size_faF) rfl ⟨rfl, below_put (by omega) _ HB4.out⟩
/- Package fault and its reference, walked: how many of a kind come ahead of an operation; the reference's Meets; the chapter's example. -/
theorem find_take_hit {p : Fa → Bool} {l : List Fa} {i : Nat} (hi : i < l.length) (h : ∀ j (hj : j < l.length), j < i → p l[j] = false) (hp : p l[i] = true) : l.find? p = some l[i] :=
 List.find?_eq_some_iff_getElem.2 ⟨hp, i, hi, rfl, fun j hj => by simp [h j (by omega) hj]⟩
theorem find_take_miss {p : Fa → Bool} {l : List Fa} (h : ∀ j (hj : j < l.length), p l[j] = false) : l.find? p = none := by
 rw [List.find?_eq_none]
 intro x hx
 obtain ⟨j, hj, rfl⟩ := List.mem_iff_getElem.1 hx
 simp [h j hj]
set_option maxHeartbeats 2000000 in
theorem rfa_meets (oa : Option Addr) (cap : Nat) (l : List Fa) (hl : l.length ≤ maxLen) (t op : Int) (w : World) (ha : FsAt w oa l) :
  Calls Tryz.prog 35 #[.slice oa l.length cap, .int .i64 t, .int .i64 op] w fun e w' => e = .returned (.tuple (meetV (meetF l t op))) ∧ Below w.heap.size w w' := by
 have hK1 : Blk (w.alloc (.cells (encF f0).toArray 40)) w.heap.size (encF f0).toArray 40 := Blk.new w _ _
 obtain ⟨w1, hw1⟩ : ∃ w1, w.alloc (.cells (encF f0).toArray 40) = w1 := ⟨_, rfl⟩
 have hb1 : Below w.heap.size w w1 := by rw [← hw1]; exact (Below.refl _ w).alloc (Nat.le_refl _) _
 rw [hw1] at hK1
 have K1 := Lib.hid hK1
 have HB1 := Lib.hid hb1
 have HW := Lib.hid hw1
 by_cases h0 : l = []
 ·subst h0
  show Calls Tryz.prog _ #[.slice oa 0 cap, .int .i64 t, .int .i64 op] w fun e w' => e = .returned (.tuple (meetV none)) ∧ Below w.heap.size w w'
  clear ha hK1 hb1 hw1
  go_enter Tryz.func35, Tryz.ntmps35
  go_wp2
  refine wp_loop_rounds 1 ?_
  rw [rounds_succ]
  go_wp2_with (first
   | (refine wpList_store_row rfl 40 (.tmp 6) (.tmp 35) rfl w.heap.size (encF f0).toArray rfl rfl 40 (encF f0).toArray (by have h := K1.out; rw [← HW.out] at h; exact h) size_faF rfl (encF_all _) ?_))
  exact bodyPost_ret (results_cell_tmp (P := Tryz.prog) rfl _ _ w.heap.size 40 (encF f0).toArray _ rfl ((show Blk (w.alloc (.cells (encF f0).toArray 40)) w.heap.size (encF f0).toArray 40 by rw [HW.out]; exact K1.out).put _) Tryz.underlying40 rfl size_faF) rfl ⟨rfl, below_put (Nat.le_refl _) _ (show Below w.heap.size w (w.alloc (.cells (encF f0).toArray 40)) by rw [HW.out]; exact HB1.out)⟩
 ·obtain ⟨B, off, rfl, hB, hc⟩ := ha h0
  have HC : Hid (∀ i (hi : i < l.length), w1.rangeAt B (off + i * 4) (encF l[i])) := fun i hi j v hv => by
   rw [World.cell?_of_block (w := w) (hb1.block B hB)]; exact hc i hi j v hv
  obtain ⟨n, hn⟩ : ∃ n, l.length = n := ⟨_, rfl⟩
  have HN := Lib.hid hn
  have hn2 : (n : Int) ≤ 9223372036854775807 := by unfold maxLen at hl; omega
  rw [hn]
  clear hn hc ha hl h0 hK1 hb1 hw1
  go_enter Tryz.func35, Tryz.ntmps35
  go_wp2
  change Code.wp _ _ _ _ (w.alloc (.cells (encF f0).toArray 40))
  rw [HW.out]
  go_loopg [8] n (fun kx s8 wr => ∃ i : Nat, s8 = .int .i64 i ∧ i ≤ n ∧ n - i ≤ kx ∧ wr = w1 ∧ Hid (∀ j (hj : j < l.length), j < i → hitB t op l[j] = false))
  case atStart => exact ⟨0, rfl, Nat.zero_le _, Nat.le_refl _, rfl, fun j _ h => absurd h (Nat.not_lt_zero j)⟩
  case round =>
   obtain ⟨i, rfl, hi, hkx, rfl, HE⟩ := hrel
   by_cases hlt : i < n
   ·have hltz : (i : Int) < (n : Int) := by omega
    have hil : i < l.length := by have := HN.out; omega
    have hr := HC.out i hil
    have HX : Hid (hitB t op l[i] = true → l.find? (hitB t op) = some l[i]) := fun h => find_take_hit hil HE.out h
    have HM : Hid (hitB t op l[i] = false → ∀ j (hj : j < l.length), j < i + 1 → hitB t op l[j] = false) := fun h j hj hji => by
     by_cases e : j = i
     ·subst e; exact h
     ·exact HE.out j hj (by omega)
    generalize l[i] = x at hr HX HM
    have HR := Lib.hid hr
    obtain ⟨x1, x2, x3, x4⟩ := x
    have c0 : wr.cell? ⟨B, off + i * 4, none⟩ = some (.int .i64 x1) := hr 0 _ rfl
    have c1 : wr.cell? ⟨B, off + i * 4 + 1, none⟩ = some (.int .i64 x2) := hr 1 _ rfl
    clear hr hil
    by_cases q1 : x1 = t
    ·have p1 : (x1 == t) = true := by simpa using q1
     have HQ : Hid (hitB t op (x1, x2, x3, x4) = fitsB x2 op) := by show _ = _; unfold hitB; simp [q1]
     clear q1
     cases hq : fitsB x2 op with
     | true =>
      have HF : Hid (meetF l t op = some (x1, x2, x3, x4)) := HX.out (by rw [HQ.out]; exact hq)
      go_wp2_with (first
       | (go_at_call 81; refine (rfa_fits _ _ _).mono ?_; rintro r w2 ⟨rfl, rfl⟩; rw [hq])
       | (refine wpList_load_mid rfl 40 (.tmp 33) rfl B (off + i * 4) rfl (encF (x1, x2, x3, x4)) _ HR.out Tryz.underlying40 rfl size_faF ?_)
       | (refine wpList_store_row rfl 40 (.tmp 6) (.tmp 34) rfl w.heap.size (encF (x1, x2, x3, x4)).toArray rfl rfl 40 (encF f0).toArray K1.out size_faF rfl (encF_all _) ?_))
      exact bodyPost_ret (results_cell_tmp (P := Tryz.prog) rfl _ _ w.heap.size 40 (encF (x1, x2, x3, x4)).toArray _ rfl (K1.out.put _) Tryz.underlying40 rfl size_faF) rfl ⟨by rw [HF.out]; rfl, below_put (Nat.le_refl _) _ HB1.out⟩
     | false =>
      have HF := Lib.hid (HM.out (by rw [HQ.out]; exact hq))
      go_wp2_with (first
       | (go_at_call 81; refine (rfa_fits _ _ _).mono ?_; rintro r w2 ⟨rfl, rfl⟩; rw [hq]))
      go_roundg (n - (i + 1))
      case measure => omega
      case rel => exact ⟨i + 1, by go_num, by omega, Nat.le_refl _, rfl, HF⟩
    ·have p1 : (x1 == t) = false := by simpa using q1
     have HF := Lib.hid (HM.out (by unfold hitB; simp [q1]))
     go_wp2_with fail
     go_roundg (n - (i + 1))
     case measure => omega
     case rel => exact ⟨i + 1, by go_num, by omega, Nat.le_refl _, rfl, HF⟩
   ·obtain rfl : i = n := by omega
    have hltz : ¬ (i : Int) < (i : Int) := by omega
    have HF : Hid (meetF l t op = none) := find_take_miss fun j hj => HE.out j hj (by have := HN.out; omega)
    go_wp2_with (first
     | (refine wpList_store_row rfl 40 (.tmp 6) (.tmp 35) rfl w.heap.size (encF f0).toArray rfl rfl 40 (encF f0).toArray K1.out size_faF rfl (encF_all _) ?_))
    exact bodyPost_ret (results_cell_tmp (P := Tryz.prog) rfl _ _ w.heap.size 40 (encF f0).toArray _ rfl (K1.out.put _) Tryz.underlying40 rfl size_faF) rfl ⟨by rw [HF.out]; rfl, below_put (Nat.le_refl _) _ HB1.out⟩
end Go.Proofs.YtalefbmoebobkaaGreatDoor
/- A chip: what the document asks of it, as a state and what each operation makes of it; how the reference keeps it. -/
namespace Go.Proofs.YtalefbmoebobkaaGreatDoor
set_option maxRecDepth 100000
open Go.RowKit
structure Gm where
 b : Int
 l : Int
 y : Int
 n : Int
 s : Int
 r : Int
structure ChS where
 G : Gm
 cs : List St
 fs : List Fa
 ops : Nat
 cuts : Nat
 rej : Nat
 off : Bool
 shk : Bool
 a : Int
 b : Int
def chHas (c : ChS) (block : Int) : Prop := 0 ≤ block ∧ block < c.cs.length
instance (c : ChS) (block : Int) : Decidable (chHas c block) := by unfold chHas; infer_instance
def howF (c : ChS) (op : Int) : Fa := (meetF c.fs c.ops op).getD f0
def opSt (s : St) (op line : Int) (p q r : ByteArray) (f : Fa) : St :=
 if op = 2 then progSt s line p f.2.1 f.2.2.1 f.2.2.2 else if op = 3 then twoSt s line p q r false f.2.1 f.2.2.1 f.2.2.2 else if op = 4 then twoSt s line p q r true f.2.1 f.2.2.1 f.2.2.2 else eraseSt s f.2.1 f.2.2.1 f.2.2.2
def opC (s : St) (op line : Int) (p q r : ByteArray) (f : Fa) : Int :=
 if op = 2 then progC s line p f.2.1 else if op = 3 then twoC s line p q r false f.2.1 else if op = 4 then twoC s line p q r true f.2.1 else eraseC s f.2.1
def endCh (c : ChS) (e : Int) : ChS := if e = 80 then { c with rej := c.rej + 1 } else if e = 82 then { c with off := true, cuts := c.cuts + 1 } else c
def opsCh (c : ChS) : ChS := { c with ops := c.ops + 1 }
def setCh (c : ChS) (i : Nat) (s : St) : ChS := { c with cs := c.cs.set i s }
def calmCh (c : ChS) : ChS := { c with shk := false }
def cellOf (c : ChS) (block : Int) : St := c.cs.getD block.toNat (newSt 0 0)
def doSt (c : ChS) (op block line : Int) (p q r : ByteArray) : ChS :=
 if c.off = true then c else if chHas c block then endCh (setCh (opsCh c) block.toNat (opSt (cellOf c block) op line p q r (howF c op))) (opC (cellOf c block) op line p q r (howF c op)) else endCh (opsCh c) 80
def doC (c : ChS) (op block line : Int) (p q r : ByteArray) : Int :=
 if c.off = true then 82 else if chHas c block then opC (cellOf c block) op line p q r (howF c op) else 80
def ReadsCh (c : ChS) (block line part : Int) : Prop := c.off = false ∧ chHas c block ∧ ReadOk (cellOf c block) line part
instance (c : ChS) (block line part : Int) : Decidable (ReadsCh c block line part) := by unfold ReadsCh; infer_instance
def rdSt (c : ChS) (block line part : Int) : ChS :=
 if c.off = true then c else if ReadsCh c block line part then (if (howF c 1).2.1 = 1 then endCh (opsCh c) 82 else calmCh (opsCh c)) else endCh (opsCh c) 80
def rdC (c : ChS) (block line part : Int) : Int :=
 if c.off = true then 82 else if ReadsCh c block line part then (if (howF c 1).2.1 = 1 then 82 else 0) else 80
def flipCh (c : ChS) (p : ByteArray) : ByteArray := if (howF c 1).2.1 = 3 then flipF p (howF c 1) else p
def shakeCh (c : ChS) (p : ByteArray) : ByteArray := if c.shk = true then hurtT p c.a c.b else p
def rdT (c : ChS) (block line part : Int) : ByteArray :=
 if ReadsCh c block line part ∧ ¬ (howF c 1).2.1 = 1 then shakeCh c (flipCh c (atT (cellOf c block) (3 * line.toNat + part.toNat))) else ByteArray.empty
structure WfCh (n : Nat) (c : ChS) : Prop where
 cells : ∀ s ∈ c.cs, WfSt s ∧ s.slc ≤ n ∧ s.tlc ≤ n
 ops : c.ops ≤ n
 cuts : c.cuts ≤ n
 rej : c.rej ≤ n
 many : c.cs.length ≤ 1000
 fs : c.fs.length ≤ maxLen
structure RC where
 s : St
 g : Nat
 c : Nat
 h : Nat
 d : Nat
def encR (x : RC) : List Value := (cv x.s x.g x.c x.h x.d).toList
theorem encR_len (x : RC) : (encR x).length = 10 := rfl
def flatR (l : List RC) : List Value := l.flatMap encR
theorem flatR_get : ∀ (l : List RC) (i j : Nat) (hi : i < l.length), j < 10 → (flatR l)[i * 10 + j]? = (encR l[i])[j]?
 | [], i, j, hi, hj => absurd hi (Nat.not_lt_zero i)
 | x :: r, 0, j, hi, hj => by
  unfold flatR
  rw [List.flatMap_cons, List.getElem?_append_left (by rw [encR_len]; omega)]
  simp
 | x :: r, i + 1, j, hi, hj => by
  unfold flatR
  rw [List.flatMap_cons, List.getElem?_append_right (by rw [encR_len]; omega), encR_len, show (i + 1) * 10 + j - 10 = i * 10 + j by omega]
  exact flatR_get r i j (by simpa using hi) hj
theorem flatR_app (l : List RC) (x : RC) : flatR (l ++ [x]) = flatR l ++ encR x := by
 unfold flatR; rw [List.flatMap_append]; simp
def CsAt (w : World) (oa : Option Addr) (l : List RC) : Prop := l ≠ [] → ∃ b off, oa = some ⟨b, off, none⟩ ∧ b < w.heap.size ∧ ∀ i (hi : i < l.length), w.rangeAt b (off + i * 10) (encR l[i])
theorem CsAt.below {w w' : World} {oa : Option Addr} {l : List RC} (h : CsAt w oa l) (hb : Below w.heap.size w w') : CsAt w' oa l := by
 intro hl
 obtain ⟨b, off, ho, hlt, hc⟩ := h hl
 exact ⟨b, off, ho, Nat.lt_of_lt_of_le hlt hb.size, fun i hi j v hj => by rw [World.cell?_of_block (w := w) (hb.block b hlt)]; exact hc i hi j v hj⟩
theorem CsAt.nil (w : World) (oa : Option Addr) : CsAt w oa [] := fun h => absurd rfl h
theorem own_cs {W : World} {B : Nat} {v : Value} {l : List RC} (h : W.ownsRow B 66 10 v l.length (flatR l)) : ∃ oa cap, v = .slice oa l.length cap ∧ CsAt W oa l := by
 rcases h.2 with ⟨rfl, h0⟩ | ⟨g, cap, cur, rfl, _, hg, _, _, _, ht⟩
 ·have hl : l = [] := List.eq_nil_of_length_eq_zero h0
  subst hl
  exact ⟨none, 0, rfl, CsAt.nil _ _⟩
 ·have hb : Blk W g cur 66 := hg
  refine ⟨_, cap, rfl, fun _ => ⟨g, 0, rfl, hb.lt, fun i hi j v hv => ?_⟩⟩
  have hj : j < 10 := (List.getElem?_eq_some_iff.1 hv).1
  rw [hb.cell, Nat.zero_add, ← hv, ← flatR_get l i j hi hj, ← ht, List.getElem?_take_of_lt (by omega)]
  simp
def RsAt (w : World) (l : List RC) : Prop := ∀ x ∈ l, WfSt x.s ∧ RAt w x.s x.g x.c x.h x.d
theorem RsAt.after {w w' : World} {l : List RC} (h : RsAt w l) (hb : Below w.heap.size w w') : RsAt w' l := fun x hx => ⟨(h x hx).1, (h x hx).2.after (h x hx).1 hb⟩
def chv (c : ChS) (oc : Option Addr) (k : Nat) (of : Option Addr) (m : Nat) : Array Value :=
 #[.int .i64 c.G.b, .int .i64 c.G.l, .int .i64 c.G.y, .int .i64 c.G.n, .int .i64 c.G.s, .int .i64 c.G.r, .slice oc c.cs.length k, .slice of c.fs.length m, .int .i64 c.ops, .int .i64 c.cuts, .int .i64 c.rej, .bool c.off, .bool c.shk, .int .i64 c.a, .int .i64 c.b]
def chz : Array Value := #[.int .i64 0, .int .i64 0, .int .i64 0, .int .i64 0, .int .i64 0, .int .i64 0, .slice none 0 0, .slice none 0 0, .int .i64 0, .int .i64 0, .int .i64 0, .bool false, .bool false, .int .i64 0, .int .i64 0]
theorem chv_one (c : ChS) (oc : Option Addr) (k : Nat) (of : Option Addr) (m : Nat) : (chv c oc k of m).all (·.oneCell') = true := by
 rw [Array.all_eq_true_iff_forall_mem]
 intro v hv
 simp [chv] at hv
 rcases hv with rfl | rfl | rfl | rfl | rfl | rfl | rfl | rfl | rfl | rfl | rfl | rfl | rfl | rfl | rfl <;> rfl
structure RCh (w : World) (c : ChS) (oc : Option Addr) (of : Option Addr) (l : List RC) : Prop where
 same : l.map (·.s) = c.cs
 row : CsAt w oc l
 all : RsAt w l
 fs : FsAt w of c.fs
theorem RCh.after {w w' : World} {c : ChS} {oc of : Option Addr} {l : List RC} (h : RCh w c oc of l) (hb : Below w.heap.size w w') : RCh w' c oc of l :=
 ⟨h.same, h.row.below hb, h.all.after hb, h.fs.below hb⟩
theorem RCh.len {w : World} {c : ChS} {oc of : Option Addr} {l : List RC} (h : RCh w c oc of l) : l.length = c.cs.length := by rw [← h.same, List.length_map]
def Foot (oc : Option Addr) (l : List RC) (k : Nat) : Prop := (l ≠ [] ∧ ∃ a, oc = some a ∧ k = a.block) ∨ ∃ x ∈ l, k = x.g ∨ k = x.h
theorem foot_set {oc0 oc : Option Addr} {l : List RC} {i B : Nat} {x y : RC} (hy : y ∈ l) (hx : ∀ q, q = x.g ∨ q = x.h → (q = y.g ∨ q = y.h) ∨ B ≤ q) (ho : ∀ a, oc = some a → B ≤ a.block) : ∀ q, Foot oc (l.set i x) q → Foot oc0 l q ∨ B ≤ q := by
 rintro q (⟨_, a, ha, rfl⟩ | ⟨z, hz, hq⟩)
 ·exact Or.inr (ho a ha)
 ·rcases List.mem_or_eq_of_mem_set hz with hz | rfl
  ·exact Or.inl (Or.inr ⟨z, hz, hq⟩)
  ·exact (hx q hq).imp (fun h => Or.inr ⟨y, hy, h⟩) id
theorem size_chip : (Tryz.prog.info? 32).map (·.size) = some 15 := by kernel_rfl
theorem infoCell : (Tryz.prog.info? 66).map (fun i => (i.zero, i.size, i.bytes)) = some (some (.agg zv), 10, 104) := by kernel_rfl
/- Package frame, walked: what its parts ask of numbers; Hurt; Blank. -/
theorem fr_data (n : Int) (w : World) : Calls Tryz.prog 102 #[.int .i64 n] w fun r w' => r = .returned (.bool (decide (8 ≤ n ∧ n ≤ 256 ∧ n % 8 = 0))) ∧ w = w' := by
 go_enter Tryz.func102, Tryz.ntmps102
 go_wp2
 all_goals go_ret
 all_goals exact ⟨ret_bool (by rw [Bool.eq_iff_iff]; simp; try omega), rfl⟩
theorem fr_onChip (n : Int) (w : World) (h0 : 0 ≤ n) (h1 : n ≤ 1000) : Calls Tryz.prog 103 #[.int .i64 n] w fun r w' => r = .returned (.int .i64 ((n + 24) / 8 * 9)) ∧ w = w' := by
 go_enter Tryz.func103, Tryz.ntmps103
 go_wp2
 go_ret
 exact ⟨rfl, rfl⟩
theorem fr_rest (n by' : Int) (w : World) (h0 : 0 < by') (h1 : by' ≤ 1000) : Calls Tryz.prog 125 #[.int .i64 n, .int .i64 by'] w fun r w' => r = .returned (.int .i64 (n % by')) ∧ w = w' := by
 have hm := Int.tmod_eq_emod (a := n) (b := by')
 have hlt := Int.emod_lt_of_pos n h0
 have hge := Int.emod_nonneg n (b := by') (by omega)
 have hab : (by'.natAbs : Int) = by' := by omega
 obtain ⟨x, hx⟩ : ∃ x, n.tmod by' = x := ⟨_, rfl⟩
 obtain ⟨y, hy⟩ : ∃ y, n % by' = y := ⟨_, rfl⟩
 rw [hx, hy] at hm
 rw [hy] at hlt hge ⊢
 have hb' : by' ≠ 0 := by omega
 have hxy : x = y ∨ x = y - by' := by
  by_cases hc : 0 ≤ n ∨ by' ∣ n
  ·rw [if_pos hc] at hm; omega
  ·rw [if_neg hc, hab] at hm; omega
 have hlo : -1000 ≤ x := by omega
 have hhi : x ≤ 1000 := by omega
 have hz : (x + by').tmod by' = y := by
  rw [Int.tmod_eq_emod_of_nonneg (by omega)]
  rcases hxy with rfl | rfl
  ·rw [Int.add_emod_right, Int.emod_eq_of_lt hge hlt]
  ·rw [show y - by' + by' = y by omega, Int.emod_eq_of_lt hge hlt]
 clear hm hxy
 go_enter Tryz.func125, Tryz.ntmps125
 go_wp2
 go_ret
 exact ⟨rfl, rfl⟩
theorem fr_turned (s : ByteArray) (k : Nat) (w : World) (hm : s.size ≤ 1000) (hk : k / 8 < s.size) :
  Calls Tryz.prog 126 #[.string s, .int .i64 k] w fun r w' => r = .returned (.string (flipS s (k / 8) (k % 8))) ∧ Below w.heap.size w w' := by
 have h := flip_yes s (k / 8) (k % 8) w hm hk (by omega)
 rw [show 8 * ((k / 8 : Nat) : Int) + ((k % 8 : Nat) : Int) = (k : Int) by omega] at h
 go_enter Tryz.func126, Tryz.ntmps126
 go_wp2_with fail
 refine h.mono ?_
 rintro r w1 ⟨rfl, hb1⟩
 have HB1 := Lib.hid hb1
 clear hb1 h
 go_wp2
 go_ret
 exact ⟨rfl, HB1.out⟩
theorem fr_hurt (s : ByteArray) (a b : Int) (w : World) (hs : s.size ≤ 1000) :
  Calls Tryz.prog 80 #[.string s, .int .i64 a, .int .i64 b] w fun r w' => r = .returned (.string (hurtT s a b)) ∧ Below w.heap.size w w' := by
 unfold hurtT
 by_cases h9 : s.size < 9
 ·rw [if_pos h9]
  have h9i : (s.size : Int) < 9 := by omega
  go_enter Tryz.func80, Tryz.ntmps80
  go_wp2
  go_ret
  exact ⟨rfl, Below.refl _ _⟩
 ·rw [if_neg h9]
  have h9i : ¬ (s.size : Int) < 9 := by omega
  obtain ⟨p, hp⟩ : ∃ p, first72 a = p := ⟨_, rfl⟩
  obtain ⟨q, hq⟩ : ∃ q, second72 a b = q := ⟨_, rfl⟩
  obtain ⟨m, hm⟩ : ∃ m : Nat, (b % 71).toNat = m := ⟨_, rfl⟩
  have hpa : a % 72 = (p : Int) := by rw [← hp]; unfold first72; omega
  have hmb : b % 71 = (m : Int) := by omega
  have hp72 : p < 72 := by omega
  have hm71 : m < 71 := by omega
  have hqe : q = (p + 1 + m) % 72 := by rw [← hq]; unfold second72; rw [hp, hm]
  have hqi : (((p : Int) + 1 + (m : Int)) % 72) = (q : Int) := by omega
  have hq72 : q < 72 := by omega
  rw [hp, hq]
  have HPA := Lib.hid hpa
  have HMB := Lib.hid hmb
  clear hp hq hm hpa hmb hqe
  go_enter Tryz.func80, Tryz.ntmps80
  go_wp2_with fail
  refine (fr_rest a 72 _ (by decide) (by decide)).mono ?_
  rintro r w' ⟨rfl, rfl⟩
  rw [HPA.out]
  go_wp2_with fail
  refine (fr_rest b 71 _ (by decide) (by decide)).mono ?_
  rintro r w' ⟨rfl, rfl⟩
  rw [HMB.out]
  go_wp2_with fail
  refine (fr_turned s p _ hs (by omega)).mono ?_
  rintro r w1 ⟨rfl, hb1⟩
  have HB1 := Lib.hid hb1
  have hz : (flipS s (p / 8) (p % 8)).size = s.size := flipS_size _ _ _ (by omega)
  obtain ⟨t, ht⟩ : ∃ t, flipS s (p / 8) (p % 8) = t := ⟨_, rfl⟩
  rw [ht] at hz ⊢
  have HT := Lib.hid ht
  clear ht hb1
  go_wp2_with fail
  refine (fr_turned t q _ (by omega) (by omega)).mono ?_
  rintro r w2 ⟨rfl, hb2⟩
  have HB2 := Lib.hid (HB1.out.trans (hb2.mono HB1.out.size))
  clear hb2
  go_wp2_with fail
  go_ret
  exact ⟨by rw [HT.out]; rfl, HB2.out⟩
theorem rep_ff (c : Nat) : (⟨(Lib.repeatL (⟨#[255]⟩ : ByteArray).data.toList c).toArray⟩ : ByteArray) = ⟨(List.replicate c 255).toArray⟩ := by
 have h : ∀ c, Lib.repeatL (⟨#[255]⟩ : ByteArray).data.toList c = List.replicate c 255 := fun c => by
  induction c with
  | zero => rfl
  | succ c ih => rw [List.replicate_succ, ← ih]; rfl
 rw [h]
theorem fr_blank (n : Int) (w : World) : Calls Tryz.prog 63 #[.int .i64 n] w fun r w' => r = .returned (.string (blankT n)) ∧ Below w.heap.size w w' := by
 unfold blankT
 by_cases hm : 0 ≤ n ∧ LenOk n.toNat
 ·rw [if_pos hm]
  have HD : Hid (decide (8 ≤ n ∧ n ≤ 256 ∧ n % 8 = 0) = true) := by obtain ⟨h0, h1, h2, h3⟩ := hm; exact decide_eq_true (by omega)
  obtain ⟨h0, h1, h2, h3⟩ := hm
  obtain ⟨c, hc⟩ : ∃ c, (n.toNat + 24) / 8 * 9 = c := ⟨_, rfl⟩
  have HC : Hid ((n + 24) / 8 * 9 = (c : Int)) := by show (n + 24) / 8 * 9 = (c : Int); omega
  have hc400 : c ≤ 400 := by omega
  have HB : Hid (blankS n.toNat = ⟨(List.replicate c 255).toArray⟩) := by unfold blankS; rw [hc]; exact rfl
  have hn256 : n ≤ 256 := by omega
  clear hc h1 h2 h3
  go_enter Tryz.func63, Tryz.ntmps63
  go_wp2_with fail
  refine (fr_data n _).mono ?_
  rintro r w' ⟨rfl, rfl⟩
  rw [HD.out]
  go_wp2_with fail
  refine (fr_onChip n _ h0 (by omega)).mono ?_
  rintro r w' ⟨rfl, rfl⟩
  rw [HC.out]
  go_wp2_with fail
  refine (Any.strings_Repeat Tryz.lays105 Tryz.Builder_Extra_105 _ c _ (by omega) (by show 1 * c ≤ _; omega)).mono ?_
  rintro r w1 ⟨rfl, hb1⟩
  rw [rep_ff]
  have HB1 := Lib.hid hb1
  clear hb1
  go_wp2_with fail
  go_ret
  exact ⟨by rw [HB.out]; rfl, HB1.out⟩
 ·rw [if_neg hm]
  have HD : Hid (decide (8 ≤ n ∧ n ≤ 256 ∧ n % 8 = 0) = false) := decide_eq_false (fun h => hm ⟨by omega, by omega, by omega, by omega⟩)
  clear hm
  go_enter Tryz.func63, Tryz.ntmps63
  go_wp2_with fail
  refine (fr_data n _).mono ?_
  rintro r w' ⟨rfl, rfl⟩
  rw [HD.out]
  go_wp2_with fail
  go_ret
  exact ⟨rfl, Below.refl _ _⟩
/- Package cell, walked: how a cell lies in memory; a line that is hurt. -/
def cc (L g cap : Nat) (bl : ByteArray) (m : Int) (d sl tl : Nat) (b t : Bool) : Array Value := #[.slice (some ⟨g, 0, none⟩) L cap, .string bl, .int .i64 m, .int .i64 d, .int .i64 sl, .int .i64 tl, .bool b, .bool t]
def lnL (l : Ln) : List Value := [.string l.p, .string l.q, .string l.r, .bool l.h]
def lv (l : Ln) : Array Value := #[.string l.p, .string l.q, .string l.r, .bool l.h]
theorem lv_one (l : Ln) : (lv l).all (·.oneCell') = true := by
 rw [Array.all_eq_true_iff_forall_mem]
 intro v hv
 simp [lv] at hv
 rcases hv with rfl | rfl | rfl | rfl <;> rfl
theorem lnL_one (l : Ln) : ∀ v ∈ lnL l, v.oneCell' = true := by
 intro v hv
 simp [lnL] at hv
 rcases hv with rfl | rfl | rfl | rfl <;> rfl
theorem size_line : (Tryz.prog.info? 116).map (·.size) = some 4 := by kernel_rfl
theorem size_code : (Tryz.prog.info? 103).map (·.size) = some 8 := by kernel_rfl
theorem setCells_heap_ne (b k : Nat) (hne : k ≠ b) : ∀ (vs : List Value) (o : Nat) (w : World), (w.setCells b o vs).heap[k]? = w.heap[k]?
 | [], _, _ => rfl
 | v :: r, o, w => by
  rw [World.setCells, setCells_heap_ne b k hne r (o + 1) _]
  exact Below.heap_setCell _ _ _ _ hne
theorem Only.setCell {F : Nat → Prop} {w w' : World} (h : Only F w w') (p : Addr) (u : Value) (hp : F p.block) : Only F w (w'.setCell p u) :=
 ⟨h.os, h.tape, h.output, by rw [World.size_setCell]; exact h.size, fun k hk hn => (Below.heap_setCell _ _ _ _ (fun e => hn (by rw [e]; exact hp))).trans (h.block k hk hn)⟩
theorem Only.setCells {F : Nat → Prop} {w : World} (b : Nat) (hb : F b) : ∀ (vs : List Value) (o : Nat) (w' : World), Only F w w' → Only F w (w'.setCells b o vs)
 | [], _, _, h => h
 | v :: r, o, w', h => by
  rw [World.setCells]
  exact Only.setCells b hb r (o + 1) _ (h.setCell ⟨b, o, none⟩ v hb)
theorem Only.drew {F : Nat → Prop} {w w' : World} (h : Only F w w') : Only F w w'.drew := ⟨h.os, h.tape, h.output, h.size, h.block⟩
theorem Only.drewN {F : Nat → Prop} {w w' : World} {n : Nat} (h : Only F w w') : Only F w (w'.drewN n) := ⟨h.os, h.tape, h.output, h.size, h.block⟩
theorem Only.weak {F G : Nat → Prop} {w w' : World} (h : Only F w w') (hF : ∀ k, F k → G k) : Only G w w' := ⟨h.os, h.tape, h.output, h.size, fun k hk hn => h.block k hk fun hf => hn (hF k hf)⟩
def LnsAt (w : World) (g : Nat) (ls : List Ln) : Prop := ∀ i, i < ls.length → w.rangeAt g (i * 4) (lnL (lnAt ls i)) ∧ w.there g (i * 4) 4
theorem LnsAt.keep {w w' : World} {g : Nat} {ls : List Ln} (h : LnsAt w g ls) (hg : w'.heap[g]? = w.heap[g]?) : LnsAt w' g ls := by
 intro i hi
 obtain ⟨h1, h2⟩ := h i hi
 refine ⟨fun j v hj => ?_, fun j hj => ?_⟩
 ·rw [World.cell?_of_block (w := w) hg]; exact h1 j v hj
 ·rw [World.cell?_of_block (w := w) hg, World.frozen?_of_block (w := w) hg]; exact h2 j hj
theorem LnsAt.lt {w : World} {g : Nat} {ls : List Ln} (h : LnsAt w g ls) (h0 : 0 < ls.length) : g < w.heap.size := by
 have h1 := (h 0 h0).1 0 _ rfl
 exact cell_lt h1
theorem LnsAt.after {w w' : World} {g : Nat} {ls : List Ln} (h : LnsAt w g ls) (hb : Below w.heap.size w w') : LnsAt w' g ls := by
 intro i hi
 exact (h.keep (hb.block g (h.lt (by omega)))) i hi
theorem LnsAt.only {F : Nat → Prop} {w w' : World} {g : Nat} {ls : List Ln} (h : LnsAt w g ls) (ho : Only F w w') (hg : ¬ F g) : LnsAt w' g ls := by
 intro i hi
 exact (h.keep (ho.block g (h.lt (by omega)) hg)) i hi
theorem LnsAt.set {w : World} {g : Nat} {ls : List Ln} (h : LnsAt w g ls) (i : Nat) (l : Ln) (hi : i < ls.length) : LnsAt (w.setCells g (i * 4) (lnL l)) g (ls.set i l) := by
 intro k hk
 have hk' : k < ls.length := by simpa using hk
 rw [lnAt_set ls i k l hi]
 have ht : w.there g (i * 4) (lnL l).length := (h i hi).2
 refine ⟨?_, World.there_setCells (h k hk').2 g (i * 4) (lnL l)⟩
 by_cases e : k = i
 ·subst e
  rw [if_pos rfl]
  exact World.rangeAt_setCells_same w g (k * 4) (lnL l) ht
 ·rw [if_neg e]
  refine World.rangeAt_setCells_apart (h k hk').1 g (i * 4) (lnL l) (Or.inr ?_)
  show k * 4 + 4 ≤ i * 4 ∨ i * 4 + 4 ≤ k * 4
  omega
theorem LnsAt.range {w : World} {g : Nat} {ls : List Ln} (h : LnsAt w g ls) {i : Nat} (hi : i < ls.length) : w.rangeAt g (i * 4) (lnL (lnAt ls i)) := (h i hi).1
theorem LnsAt.pages {w : World} {g : Nat} {ls : List Ln} (h : LnsAt w g ls) {i : Nat} (hi : i < ls.length) : w.rangeAt g (i * 4) [.string (lnAt ls i).p, .string (lnAt ls i).q, .string (lnAt ls i).r] := by
 intro j v hj
 refine (h i hi).1 j v ?_
 match j, hj with
 | 0, hj => exact hj
 | 1, hj => exact hj
 | 2, hj => exact hj
theorem info_str : (Tryz.prog.info? 9).map (fun i => (i.size, i.zero)) = some (1, some (.string ByteArray.empty)) := by kernel_rfl
theorem index_three (p q r : ByteArray) (n : Nat) (hn : n < 3) (w : World) : (Instr.index 38 (.agg #[.string p, .string q, .string r]) (.int .i64 (n : Int))).run Tryz.prog w = .ok (.string (pgN p q r n)) w := by
 have hu : Tryz.prog.underlying 38 = some (.array 3 9) := by kernel_rfl
 obtain ⟨i, hi, hzz⟩ := Option.map_eq_some_iff.1 info_str
 simp only [Prod.mk.injEq] at hzz
 have hz1 := hzz.1
 simp [Instr.index, asIntOf, run_underlying hu, hn, part, sizeOf, typeInfo, hi, hz1, isAgg, run_underlying Tryz.underlying9, go_sem]
 match n, hn with
 | 0, _ => rfl
 | 1, _ => rfl
 | 2, _ => rfl
set_option maxHeartbeats 1000000 in
theorem ce_hurtBy (l : Ln) (a b : Int) (w : World) (hs : ∀ t, (l.pt t).size ≤ 400) :
  Calls Tryz.prog 97 #[.agg (lv l), .int .i64 a, .int .i64 b] w fun e w' => e = .returned (.agg (lv (hurtL l a b))) ∧ Below w.heap.size w w' := by
 obtain ⟨w1, hw1⟩ : ∃ w1, (w.alloc (.cells (lv l) 116)).alloc (.cells (lv l0) 116) = w1 := ⟨_, rfl⟩
 have hb1 : Below w.heap.size w w1 := by rw [← hw1]; exact ((Below.refl _ _).alloc (Nat.le_refl _) _).alloc (by simp) _
 have hk1 : Blk w1 w.heap.size (lv l) 116 := by rw [← hw1]; exact (Blk.new w _ _).alloc _
 have hk2 : Blk w1 (w.heap.size + 1) (lv l0) 116 := by
  rw [← hw1]
  have := Blk.new (w.alloc (.cells (lv l) 116)) (lv l0) 116
  rw [World.size_alloc] at this
  exact this
 obtain ⟨p, q, r, h⟩ := l
 have hp : p.size ≤ 1000 := by have := hs 0; show p.size ≤ 1000; exact Nat.le_trans this (by decide)
 have hq : q.size ≤ 1000 := by have := hs 1; exact Nat.le_trans this (by decide)
 have hr : r.size ≤ 1000 := by have := hs 2; exact Nat.le_trans this (by decide)
 have HB1 := Lib.hid hb1
 have HK1 := Lib.hid hk1
 have HK2 := Lib.hid hk2
 have HW1 := Lib.hid hw1
 have HP := Lib.hid hp
 have HQ := Lib.hid hq
 have HR := Lib.hid hr
 clear hb1 hk1 hk2 hw1 hs hp hq hr
 cases h with
 | true =>
  unfold lv l0 at *
  go_enter Tryz.func97, Tryz.ntmps97
  go_wp2_with (first
   | (change wpList _ _ _ _ _ ((w.alloc (.cells #[.string p, .string q, .string r, .bool true] 116)).alloc (.cells #[.string ByteArray.empty, .string ByteArray.empty, .string ByteArray.empty, .bool false] 116)); rw [HW1.out]; refine wpList_load_row rfl 116 (.tmp 3) rfl w.heap.size rfl 116 #[.string p, .string q, .string r, .bool true] (0, 0) _ HK1.out Tryz.underlying116 rfl size_line ?_)
   | (refine wpList_store_row rfl 116 (.tmp 6) (.tmp 11) rfl (w.heap.size + 1) #[.string p, .string q, .string r, .bool true] rfl rfl 116 #[.string ByteArray.empty, .string ByteArray.empty, .string ByteArray.empty, .bool false] HK2.out size_line rfl (lv_one ⟨p, q, r, true⟩) ?_))
  exact bodyPost_ret (results_cell_row (P := Tryz.prog) rfl _ _ (w.heap.size + 1) 116 #[.string p, .string q, .string r, .bool true] (0, 0) _ rfl (HK2.out.put _) Tryz.underlying116 rfl size_line) rfl ⟨rfl, below_put (by omega) _ HB1.out⟩
 | false =>
  go_enter Tryz.func97, Tryz.ntmps97
  unfold lv l0 at *
  go_wp2_with fail
  change Code.wp _ (Code.loop _) _ _ ((w.alloc (.cells #[.string p, .string q, .string r, .bool false] 116)).alloc (.cells #[.string ByteArray.empty, .string ByteArray.empty, .string ByteArray.empty, .bool false] 116))
  rw [HW1.out]
  refine wp_loop_rounds 4 ?_
  have i0 : ∀ w, (Instr.index 38 (.agg #[.string p, .string q, .string r]) (.int .i64 0)).run Tryz.prog w = .ok (.string p) w := fun w => index_three p q r 0 (by decide) w
  have i1 : ∀ w, (Instr.index 38 (.agg #[.string p, .string q, .string r]) (.int .i64 1)).run Tryz.prog w = .ok (.string q) w := fun w => index_three p q r 1 (by decide) w
  have i2 : ∀ w, (Instr.index 38 (.agg #[.string p, .string q, .string r]) (.int .i64 2)).run Tryz.prog w = .ok (.string r) w := fun w => index_three p q r 2 (by decide) w
  have HL1 := HK2
  clear HK2
  rw [rounds_succ]
  go_wp2_with fail
  refine (fr_hurt p a b _ HP.out).mono ?_
  rintro e w2 ⟨rfl, hb2⟩
  obtain ⟨p', hp'⟩ : ∃ p', hurtT p a b = p' := ⟨_, rfl⟩
  have k2 := HK1.out.after hb2
  have c0 : w2.cell? ⟨w.heap.size, 0, none⟩ = some (.string p) := k2.cell 0
  have f0 := k2.free 0
  have HBt := Lib.hid (HB1.out.trans (hb2.mono HB1.out.size)) 
  have HLt := Lib.hid (HL1.out.after hb2)
  have Hp' := Lib.hid hp'
  obtain ⟨v1, hv⟩ : ∃ v, w2.setCell ⟨w.heap.size, 0, none⟩ (.string p') = v := ⟨_, rfl⟩
  have hk3 := k2.set 0 (.string p') rfl
  have hl3 := HLt.out.set_other (c := w.heap.size) (by omega) 0 (.string p')
  have hb3 := HBt.out.setCell (p := ⟨w.heap.size, 0, none⟩) (Nat.le_refl _) (.string p')
  rw [hv] at hk3 hl3 hb3
  have HK2 := Lib.hid hk3
  have HL2 := Lib.hid hl3
  have HB2 := Lib.hid hb3
  have HV := Lib.hid hv
  rw [hp']
  clear hp' hb2 hv hk3 hl3 hb3 HBt HLt HK1 HL1 HB1 k2
  go_wp2_with fail
  clear c0 f0
  change Code.rounds _ _ _ _ _ (w2.setCell ⟨w.heap.size, 0, none⟩ (.string p'))
  rw [HV.out]
  clear HV
  rw [rounds_succ]
  go_wp2_with fail
  refine (fr_hurt q a b _ HQ.out).mono ?_
  rintro e w3 ⟨rfl, hb2⟩
  obtain ⟨q', hq'⟩ : ∃ q', hurtT q a b = q' := ⟨_, rfl⟩
  have k2 := HK2.out.after hb2
  have c0 : w3.cell? ⟨w.heap.size, 1, none⟩ = some (.string q) := k2.cell 1
  have f0 := k2.free 1
  have HBt := Lib.hid (HB2.out.trans (hb2.mono HB2.out.size)) 
  have HLt := Lib.hid (HL2.out.after hb2)
  have Hq' := Lib.hid hq'
  obtain ⟨v2, hv⟩ : ∃ v, w3.setCell ⟨w.heap.size, 1, none⟩ (.string q') = v := ⟨_, rfl⟩
  have hk3 := k2.set 1 (.string q') rfl
  have hl3 := HLt.out.set_other (c := w.heap.size) (by omega) 1 (.string q')
  have hb3 := HBt.out.setCell (p := ⟨w.heap.size, 1, none⟩) (Nat.le_refl _) (.string q')
  rw [hv] at hk3 hl3 hb3
  have HK3 := Lib.hid hk3
  have HL3 := Lib.hid hl3
  have HB3 := Lib.hid hb3
  have HV := Lib.hid hv
  rw [hq']
  clear hq' hb2 hv hk3 hl3 hb3 HBt HLt HK2 HL2 HB2 k2
  go_wp2_with fail
  clear c0 f0
  change Code.rounds _ _ _ _ _ (w3.setCell ⟨w.heap.size, 1, none⟩ (.string q'))
  rw [HV.out]
  clear HV
  rw [rounds_succ]
  go_wp2_with fail
  refine (fr_hurt r a b _ HR.out).mono ?_
  rintro e w4 ⟨rfl, hb2⟩
  obtain ⟨r', hr'⟩ : ∃ r', hurtT r a b = r' := ⟨_, rfl⟩
  have k2 := HK3.out.after hb2
  have c0 : w4.cell? ⟨w.heap.size, 2, none⟩ = some (.string r) := k2.cell 2
  have f0 := k2.free 2
  have HBt := Lib.hid (HB3.out.trans (hb2.mono HB3.out.size)) 
  have HLt := Lib.hid (HL3.out.after hb2)
  have Hr' := Lib.hid hr'
  obtain ⟨v3, hv⟩ : ∃ v, w4.setCell ⟨w.heap.size, 2, none⟩ (.string r') = v := ⟨_, rfl⟩
  have hk3 := k2.set 2 (.string r') rfl
  have hl3 := HLt.out.set_other (c := w.heap.size) (by omega) 2 (.string r')
  have hb3 := HBt.out.setCell (p := ⟨w.heap.size, 2, none⟩) (Nat.le_refl _) (.string r')
  rw [hv] at hk3 hl3 hb3
  have HK4 := Lib.hid hk3
  have HL4 := Lib.hid hl3
  have HB4 := Lib.hid hb3
  have HV := Lib.hid hv
  rw [hr']
  clear hr' hb2 hv hk3 hl3 hb3 HBt HLt HK3 HL3 HB3 k2
  go_wp2_with fail
  clear c0 f0
  change Code.rounds _ _ _ _ _ (w4.setCell ⟨w.heap.size, 2, none⟩ (.string r'))
  rw [HV.out]
  clear HV
  rw [rounds_succ]
  have c3 : v3.cell? ⟨w.heap.size, 3, none⟩ = some (.bool false) := HK4.out.cell 3
  have f3 := HK4.out.free 3
  obtain ⟨z, hz⟩ : ∃ z, v3.setCell ⟨w.heap.size, 3, none⟩ (.bool true) = z := ⟨_, rfl⟩
  have hk5 : Blk (v3.setCell ⟨w.heap.size, 3, none⟩ (.bool true)) w.heap.size #[.string p', .string q', .string r', .bool true] 116 := HK4.out.set 3 (.bool true) rfl
  have hl5 := HL4.out.set_other (c := w.heap.size) (by omega) 3 (.bool true)
  have hb5 := HB4.out.setCell (p := ⟨w.heap.size, 3, none⟩) (Nat.le_refl _) (.bool true)
  rw [hz] at hk5 hl5 hb5
  have HK5 := Lib.hid hk5
  have HL5 := Lib.hid hl5
  have HB5 := Lib.hid hb5
  have HZ := Lib.hid hz
  clear hz hk5 hl5 hb5 HK4 HL4 HB4
  go_wp2_with (first
   | (change wpList _ _ _ _ _ (v3.setCell ⟨w.heap.size, 3, none⟩ (.bool true)); rw [HZ.out]; refine wpList_load_row rfl 116 (.tmp 3) rfl w.heap.size rfl 116 #[.string p', .string q', .string r', .bool true] (0, 0) _ HK5.out Tryz.underlying116 rfl size_line ?_)
   | (refine wpList_store_row rfl 116 (.tmp 6) (.tmp 27) rfl (w.heap.size + 1) #[.string p', .string q', .string r', .bool true] rfl rfl 116 #[.string ByteArray.empty, .string ByteArray.empty, .string ByteArray.empty, .bool false] HL5.out size_line rfl (lv_one ⟨p', q', r', true⟩) ?_))
  exact bodyPost_ret (results_cell_row (P := Tryz.prog) rfl _ _ (w.heap.size + 1) 116 #[.string p', .string q', .string r', .bool true] (0, 0) _ rfl (HL5.out.put _) Tryz.underlying116 rfl size_line) rfl ⟨by rw [← Hp'.out, ← Hq'.out, ← Hr'.out]; rfl, below_put (by omega) _ HB5.out⟩
/- Package cell, walked: takes. -/
theorem ce_takes1 (p : ByteArray) (bc o : Nat) (bl : ByteArray) (w : World) (hc : w.cell? ⟨bc, 0, none⟩ = some (.pointer (some ⟨o, 0, none⟩))) (ho : w.cell? ⟨o, 1, none⟩ = some (.string bl)) :
    Calls Tryz.prog 132 #[.string p, .pointer (some ⟨bc, 0, none⟩)] w fun e w' => e = .returned (.bool (p.size != bl.size)) ∧ w = w' := by
  go_enter Tryz.func132, Tryz.ntmps132
  go_wp2
  go_ret
  exact ⟨ret_bool (by rw [Bool.eq_iff_iff]; simp; try omega), rfl⟩
def badSize (bl : ByteArray) (p : ByteArray) : Bool := p.size != bl.size
theorem ce_index (ps : List ByteArray) (b cap bc o : Nat) (bl : ByteArray) (w : World) (hc : w.cell? ⟨bc, 0, none⟩ = some (.pointer (some ⟨o, 0, none⟩))) (ho : w.cell? ⟨o, 1, none⟩ = some (.string bl)) 
    (hn : ps.length ≤ 3) (hp : ∀ j, j < ps.length → w.cell? ⟨b, j, none⟩ = some (.string (ps.getD j ByteArray.empty))) :
    Calls Tryz.prog 154 #[.slice (some ⟨b, 0, none⟩) ps.length cap, .func (.func 132) #[] #[.pointer (some ⟨bc, 0, none⟩)]] w
      fun e w' => (∃ i : Int, e = .returned (.int .i64 i) ∧ -1 ≤ i ∧ i ≤ 3 ∧ decide (0 ≤ i) = ps.any (badSize bl)) ∧ w = w' := by
  obtain ⟨n, hnn⟩ : ∃ n, ps.length = n := ⟨_, rfl⟩
  rw [hnn] at hn hp ⊢
  have HN := Lib.hid hnn
  have HP := Lib.hid hp
  have HT := Lib.hid (fun p => ce_takes1 p bc o bl w hc ho)
  clear hnn hp hc ho
  go_enter Tryz.func154, Tryz.ntmps154
  go_wp2_with fail
  go_loop [5, 8] (fun _ i => ∃ j : Nat, j ≤ n ∧ i = .int .i64 j ∧ (ps.take j).any (badSize bl) = false) (fun _ i => n - (intOf i).toNat)
  case atStart => exact ⟨0, Nat.zero_le _, rfl, rfl⟩
  case round =>
    obtain ⟨j, hj, rfl, hany⟩ := hrel
    by_cases hlt : j < n
    · have hcell := HP.out j hlt
      have HTAKE : Hid (ps.take (j + 1) = ps.take j ++ [ps.getD j ByteArray.empty]) := by
        rw [List.take_add_one, List.getD_eq_getElem?_getD, List.getElem?_eq_getElem (by have := HN.out; omega)]; rfl
      obtain ⟨p, hpp⟩ : ∃ p, ps.getD j ByteArray.empty = p := ⟨_, rfl⟩
      rw [hpp] at hcell HTAKE
      have HC := Lib.hid (HT.out p)
      have HANY := Lib.hid hany
      clear hpp hany
      cases hq : badSize bl p with
      | true =>
        have HQ := Lib.hid hq
        have hq2 : (p.size != bl.size) = true := hq
        rw [hq2] at HC
        clear hq hq2
        go_wp2_with fail
        refine HC.out.mono ?_
        rintro e w' ⟨rfl, rfl⟩
        go_wp2_with fail
        go_ret
        refine ⟨⟨(j : Nat), rfl, by omega, by omega, ?_⟩, rfl⟩
        rw [decide_eq_true (by omega)]
        symm
        rw [List.any_eq_true]
        have h1 : p ∈ ps.take (j + 1) := by rw [HTAKE.out]; simp
        exact ⟨p, List.mem_of_mem_take h1, HQ.out⟩
      | false =>
        have HQ := Lib.hid hq
        have hq2 : (p.size != bl.size) = false := hq
        rw [hq2] at HC
        clear hq hq2
        go_wp2_with fail
        refine HC.out.mono ?_
        rintro e w' ⟨rfl, rfl⟩
        go_wp2_with fail
        go_round
        case rel =>
          refine ⟨j + 1, by omega, by go_num, ?_⟩
          rw [HTAKE.out, List.any_append, HANY.out]
          simp [HQ.out]
        case measure => simp [intOf]; omega
    · have hje : j = n := by omega
      have HANY := Lib.hid hany
      clear hany
      go_wp2_with fail
      go_ret
      refine ⟨⟨-1, rfl, by omega, by omega, ?_⟩, rfl⟩
      have h1 := HANY.out
      rw [hje, ← HN.out, List.take_length] at h1
      rw [h1]
      rfl
theorem ce_contains (ps : List ByteArray) (b cap bc o : Nat) (bl : ByteArray) (w : World) (hc : w.cell? ⟨bc, 0, none⟩ = some (.pointer (some ⟨o, 0, none⟩))) (ho : w.cell? ⟨o, 1, none⟩ = some (.string bl)) 
    (hn : ps.length ≤ 3) (hp : ∀ j, j < ps.length → w.cell? ⟨b, j, none⟩ = some (.string (ps.getD j ByteArray.empty))) :
    Calls Tryz.prog 131 #[.slice (some ⟨b, 0, none⟩) ps.length cap, .func (.func 132) #[] #[.pointer (some ⟨bc, 0, none⟩)]] w
      fun e w' => e = .returned (.bool (ps.any (badSize bl))) ∧ w = w' := by
  have HI := Lib.hid (ce_index ps b cap bc o bl w hc ho hn hp)
  clear hc ho hp
  go_enter Tryz.func131, Tryz.ntmps131
  go_wp2_with fail
  refine HI.out.mono ?_
  rintro e w' ⟨⟨i, rfl, h1, h2, h3⟩, rfl⟩
  have H3 := Lib.hid h3
  clear h3
  go_wp2_with fail
  go_ret
  exact ⟨ret_bool H3.out, rfl⟩
def takesA (m0 m : Int) (b t : Bool) (bl : ByteArray) (ps : List ByteArray) : Bool := !b && !t && (m0 == 0 || m0 == m) && !ps.any (badSize bl)
set_option maxHeartbeats 1000000 in
theorem ce_takes (o L g cap : Nat) (bl : ByteArray) (m0 : Int) (d sl tl : Nat) (bad torn : Bool) (m : Int) (ps : List ByteArray) (pb pcap : Nat) (w : World) (hk : Blk w o (cc L g cap bl m0 d sl tl bad torn) 103) 
    (hn : ps.length ≤ 3) (hp : ∀ j, j < ps.length → w.cell? ⟨pb, j, none⟩ = some (.string (ps.getD j ByteArray.empty))) (hm : m0 = 0 ∨ m0 = 1 ∨ m0 = 2) (hm2 : m = 1 ∨ m = 2) :
    Calls Tryz.prog 85 #[.pointer (some ⟨o, 0, none⟩), .int .i64 m, .slice (some ⟨pb, 0, none⟩) ps.length pcap] w fun e w' => e = .returned (.bool (takesA m0 m bad torn bl ps)) ∧ Below w.heap.size w w' := by
  obtain ⟨w1, hw1⟩ : ∃ w1, w.alloc (.cells #[.pointer (some ⟨o, 0, none⟩)] 59) = w1 := ⟨_, rfl⟩
  have hb1 : Below w.heap.size w w1 := by rw [← hw1]; exact (Below.refl _ _).alloc (Nat.le_refl _) _
  have hx : w1.cell? ⟨w.heap.size, 0, none⟩ = some (.pointer (some ⟨o, 0, none⟩)) := by rw [← hw1]; exact (Blk.new w _ _).cell 0
  have hk1 : Blk w1 o (cc L g cap bl m0 d sl tl bad torn) 103 := hk.after hb1
  have c1 : w1.cell? ⟨o, 1, none⟩ = some (.string bl) := hk1.cell 1
  have c2 : w1.cell? ⟨o, 2, none⟩ = some (.int .i64 m0) := hk1.cell 2
  have c6 : w1.cell? ⟨o, 6, none⟩ = some (.bool bad) := hk1.cell 6
  have c7 : w1.cell? ⟨o, 7, none⟩ = some (.bool torn) := hk1.cell 7
  have hp1 : ∀ j, j < ps.length → w1.cell? ⟨pb, j, none⟩ = some (.string (ps.getD j ByteArray.empty)) := fun j hj => by
    have h1 := hp j hj
    rw [← h1]
    exact hb1.cell (p := ⟨pb, j, none⟩) (cell_lt h1)
  have HCON := Lib.hid (ce_contains ps pb pcap w.heap.size o bl w1 hx c1 hn hp1)
  have HB1 := Lib.hid hb1
  subst hw1
  obtain ⟨A, hA⟩ : ∃ A, ps.any (badSize bl) = A := ⟨_, rfl⟩
  unfold takesA
  rw [hA] at HCON ⊢
  obtain ⟨n, hnn⟩ : ∃ n, ps.length = n := ⟨_, rfl⟩
  rw [hnn] at HCON hn ⊢
  clear hk hk1 hb1 hp hp1 hA hnn
  cases bad with
  | true =>
    go_enter Tryz.func85, Tryz.ntmps85
    go_wp2_with fail
    go_ret
    exact ⟨rfl, HB1.out⟩
  | false =>
    cases torn with
    | true =>
      go_enter Tryz.func85, Tryz.ntmps85
      go_wp2_with fail
      go_ret
      exact ⟨rfl, HB1.out⟩
    | false =>
      rcases hm with rfl | rfl | rfl <;> rcases hm2 with rfl | rfl
      all_goals
        go_enter Tryz.func85, Tryz.ntmps85
        go_wp2_with fail
      all_goals first
        | (refine HCON.out.mono ?_
           rintro e w' ⟨rfl, rfl⟩
           go_wp2_with fail
           go_ret
           exact ⟨ret_bool (by simp), HB1.out⟩)
        | (go_ret
           exact ⟨rfl, HB1.out⟩)
/- Package cell, walked: told, count, empty. -/
def CB (w0 : World) (o : Nat) (cs : Array Value) (w : World) : Prop := Blk w o cs 103 ∧ Below w0.heap.size w0 w
theorem CB.call {w0 w w' : World} {o : Nat} {cs : Array Value} (h : CB w0 o cs w) (hb : Below w.heap.size w w') : CB w0 o cs w' := ⟨h.1.after hb, h.2.trans (hb.mono h.2.size)⟩
theorem no_specialC : ∀ (j : Nat) (a a' : Act) (w w' : World), (fun _ _ _ => False : Nat → Act → World → Prop) j a w → (∀ d ∈ ([] : List Tmp), a'.tmps.getD d undef = a.tmps.getD d undef) → Goes w w' → (fun _ _ _ => False : Nat → Act → World → Prop) j a' w' := fun _ _ _ _ _ h _ _ => h
def vsCTD (o g cap L d i : Nat) : List (Option (Tmp × Value)) :=
 [some (22, .pointer (some ⟨o, 0, none⟩)), some (23, .pointer (some ⟨o, 0, none⟩)), some (24, .pointer (some ⟨o, 0, none⟩)), some (25, .slice (some ⟨g, 0, none⟩) L cap), some (26, .int .i64 (L : Int)), some (27, .pointer (some ⟨o, 0, none⟩)), some (28, .pointer (some ⟨o, 0, none⟩)), some (29, .pointer (some ⟨o, 3, none⟩)), some (30, .int .i64 (d : Int)), some (31, .int .i64 (i : Int)), some (32, .tuple #[.int .i64 (afN (L : Int) (d : Int) (i : Int)), .int .i64 (afC (L : Int) (d : Int) (i : Int))]), some (21, .tuple #[.int .i64 (afN (L : Int) (d : Int) (i : Int)), .int .i64 (afC (L : Int) (d : Int) (i : Int))]), some (33, .int .i64 (afN (L : Int) (d : Int) (i : Int))), some (34, .int .i64 (afC (L : Int) (d : Int) (i : Int))), some (6, .int .i64 (afN (L : Int) (d : Int) (i : Int))), some (7, .int .i64 (afC (L : Int) (d : Int) (i : Int)))]
def BaseCTD (o i B : Nat) (a : Act) : Prop := ∃ u : Nat → Value, a = ⟨#[.pointer (some ⟨o, 0, none⟩), .int .i64 (i : Int), u 2, u 3, .pointer (some ⟨B, 0, none⟩), .pointer (some ⟨B + 1, 0, none⟩), u 6, u 7, u 8, u 9, u 10, u 11, u 12, u 13, u 14, u 15, u 16, u 17, u 18, u 19, u 20, u 21, u 22, u 23, u 24, u 25, u 26, u 27, u 28, u 29, u 30, u 31, u 32, u 33, u 34, u 35, u 36, u 37, u 38, u 39], []⟩
def toldR (m : Int) (L d : Nat) (ls : List Ln) (i : Nat) : Ln := if m = 2 ∧ afterC L d i = 1 then hurtL (lnAt ls i) 0 0 else lnAt ls i
theorem told_is (s : St) (ls : List Ln) (i : Nat) : toldR s.mode s.L s.done ls i = lnTold s ls i := by
 unfold toldR lnTold isFog
 rw [show 3 * i / 3 = i by omega]
 by_cases h1 : s.mode = 2 <;> by_cases h2 : afterC s.L s.done i = 1 <;> simp [h1, h2]
set_option maxHeartbeats 1000000 in
theorem ce_told (o L g cap : Nat) (bl : ByteArray) (m : Int) (d sl tl : Nat) (bad torn : Bool) (ls : List Ln) (i : Nat) (w : World) (hk : Blk w o (cc L g cap bl m d sl tl bad torn) 103) (hl : LnsAt w g ls) (hlen : ls.length = L)
  (h1 : 1 ≤ L) (h64 : L ≤ 64) (hd : d ≤ 2 * L) (hi : i < L) (hs : ∀ t, ((lnAt ls i).pt t).size ≤ 400) (hm : m = 0 ∨ m = 1 ∨ m = 2) :
  Calls Tryz.prog 77 #[.pointer (some ⟨o, 0, none⟩), .int .i64 (i : Int)] w fun e w' => e = .returned (.agg (lv (toldR m L d ls i))) ∧ Below w.heap.size w w' := by
 obtain ⟨ln, hln⟩ : ∃ ln, lnAt ls i = ln := ⟨_, rfl⟩
 have hrg := hl.range (i := i) (by omega)
 unfold toldR
 rw [hln] at hs hrg ⊢
 obtain ⟨X, hX⟩ : ∃ X, (if m = 2 ∧ afterC L d i = 1 then hurtL ln 0 0 else ln) = X := ⟨_, rfl⟩
 have HX1 : Hid (m = 2 ∧ afterC L d i = 1 → hurtL ln 0 0 = X) := fun h => by rw [← hX, if_pos h]
 have HX0 : Hid (¬ (m = 2 ∧ afterC L d i = 1) → ln = X) := fun h => by rw [← hX, if_neg h]
 rw [hX]
 clear hX
 obtain ⟨w1, hw1⟩ : ∃ w1, w.alloc (.cells #[.string ⟨#[]⟩, .string ⟨#[]⟩, .string ⟨#[]⟩, .bool false] 116) = w1 := ⟨_, rfl⟩
 have hb1 : Below w.heap.size w w1 := by rw [← hw1]; exact (Below.refl _ _).alloc (Nat.le_refl _) _
 have hn1 : Blk w1 w.heap.size (lv l0) 116 := by rw [← hw1]; exact Blk.new w _ _
 have hs1 : w1.heap.size = w.heap.size + 1 := by rw [← hw1, World.size_alloc]
 have hrg1 : w1.rangeAt g (i * 4) (lnL ln) := by rw [← hw1]; exact World.rangeAt_alloc hrg _
 obtain ⟨w2, hw2⟩ : ∃ w2, (w1.alloc (.cells #[.string ⟨#[]⟩, .string ⟨#[]⟩, .string ⟨#[]⟩, .bool false] 116)).setRow (w.heap.size + 1) (lv ln) = w2 := ⟨_, rfl⟩
 have hb2 : Below w1.heap.size w1 w2 := by rw [← hw2]; exact below_put (by omega) _ ((Below.refl _ _).alloc (Nat.le_refl _) _)
 have hz2 : Blk (w1.alloc (.cells #[.string ⟨#[]⟩, .string ⟨#[]⟩, .string ⟨#[]⟩, .bool false] 116)) (w.heap.size + 1) (lv l0) 116 := by have h := Blk.new w1 #[.string ⟨#[]⟩, .string ⟨#[]⟩, .string ⟨#[]⟩, .bool false] 116; rw [hs1] at h; exact h
 have hn2 : Blk w2 (w.heap.size + 1) (lv ln) 116 := by rw [← hw2]; exact hz2.put _
 have hk1 := hk.after hb1
 have hk2 := hk1.after hb2
 have c0 : w1.cell? ⟨o, 0, none⟩ = some (.slice (some ⟨g, 0, none⟩) L cap) := hk1.cell 0
 have c2 : w2.cell? ⟨o, 2, none⟩ = some (.int .i64 m) := hk2.cell 2
 have HC0 : Hid (CB w2 o (cc L g cap bl m d sl tl bad torn) w2) := ⟨hk2, Below.refl _ _⟩
 have HB2 := Lib.hid (hb1.trans (hb2.mono hb1.size))
 have HN1 := Lib.hid (hn1.after hb2)
 have HN2 := Lib.hid hn2
 have HZ2 := Lib.hid hz2
 have HRG := Lib.hid hrg1
 have HS := Lib.hid hs
 have HW2 := Lib.hid hw2
 have HD := Lib.hid hd
 have HI := Lib.hid (⟨h1, h64⟩ : 1 ≤ L ∧ L ≤ 64)
 subst hw1
 clear hk hl hlen hln hrg hb1 hn1 hs1 hrg1 hw2 hb2 hz2 hn2 hk1 hk2 hs hd
 go_enter Tryz.func77, Tryz.ntmps77
 by_cases hm2 : m = 2
 ·subst hm2
  go_wp2_with (first
   | (refine wpList_load_mid rfl 116 (.tmp 13) rfl g (i * 4) rfl (lnL ln) _ HRG.out Tryz.underlying116 rfl size_line ?_)
   | (refine wpList_store_row rfl 116 (.tmp 5) (.tmp 14) rfl (w.heap.size + 1) (lv ln) rfl rfl 116 (lv l0) HZ2.out size_line rfl (lv_one _) ?_; change wpList _ _ _ _ _ (((w.alloc (.cells #[.string ⟨#[]⟩, .string ⟨#[]⟩, .string ⟨#[]⟩, .bool false] 116)).alloc (.cells #[.string ⟨#[]⟩, .string ⟨#[]⟩, .string ⟨#[]⟩, .bool false] 116)).setRow (w.heap.size + 1) (lv ln)); rw [HW2.out]))
  have hafn : afN (L : Int) (d : Int) (i : Int) = ((afterC L d i : Nat) : Int) := by
   have hi1 := HI.out
   have hd1 := HD.out
   unfold afN
   rw [if_pos ⟨⟨by omega, by omega⟩, by omega, by omega, by omega, by omega⟩]
   simp
  have HAF := Lib.hid hafn
  clear hafn c2 HRG HW2 HZ2
  rename_i K0 hK0
  refine wp_region_list3 (SV (vsCTD o g cap L d i) []) (BaseCTD o i w.heap.size) (CB w2 o (cc L g cap bl 2 d sl tl bad torn)) (Goes) (RV (vsCTD o g cap L d i) (fun _ _ _ => False)) rfl (by kernel_rfl) (RV.ext no_specialC) ?_ (HC0.out.call (Below.refl _ _).drew) (fr_of _ (by kernel_rfl)) ?_ ?_
  ·exact ⟨fr_put 22 fun _ _ => by kernel_rfl, fr_put 23 fun _ _ => by kernel_rfl, fr_put 24 fun _ _ => by kernel_rfl, fr_put 25 fun _ _ => by kernel_rfl, fr_put 26 fun _ _ => by kernel_rfl, fr_put 27 fun _ _ => by kernel_rfl, fr_put 28 fun _ _ => by kernel_rfl, fr_put 29 fun _ _ => by kernel_rfl, fr_put 30 fun _ _ => by kernel_rfl, fr_put 31 fun _ _ => by kernel_rfl, fr_put 32 fun _ _ => by kernel_rfl, fr_put 21 fun _ _ => by kernel_rfl, fr_put 33 fun _ _ => by kernel_rfl, fr_put 34 fun _ _ => by kernel_rfl, fr_put 6 fun _ _ => by kernel_rfl, fr_put 7 fun _ _ => by kernel_rfl, trivial⟩
  ·refine ⟨?_, ?_, ?_, ?_, ?_, ?_, ?_, ?_, ?_, ?_, ?_, ?_, ?_, ?_, ?_, ?_, trivial⟩
   all_goals
    intro a w' hC hB hR
    obtain ⟨u, rfl⟩ := hB
    have HC := Lib.hid hC
    clear hC; clear hK0
   ·clear hR; refine if_yes (by kernel_rfl) ?_; unfold Oper.wp; go_simp; exact ⟨.pointer (some ⟨o, 0, none⟩), rfl, HC.out, Below.refl _ _, rfl⟩
   ·have h22 : u 22 = .pointer (some ⟨o, 0, none⟩) := hR ⟨0, .data⟩ (by simp) rfl; clear hR; simp only [h22]; refine if_yes (by kernel_rfl) ?_; unfold Oper.wp; go_simp; exact ⟨.pointer (some ⟨o, 0, none⟩), rfl, HC.out, Below.refl _ _, rfl⟩
   ·have h23 : u 23 = .pointer (some ⟨o, 0, none⟩) := hR ⟨1, .data⟩ (by simp) rfl; clear hR; simp only [h23]; refine if_yes (by kernel_rfl) ?_; unfold Oper.wp; go_simp; exact ⟨.pointer (some ⟨o, 0, none⟩), rfl, HC.out, Below.refl _ _, rfl⟩
   ·have h24 : u 24 = .pointer (some ⟨o, 0, none⟩) := hR ⟨2, .data⟩ (by simp) rfl
    have hc : w'.cell? ⟨o, 0, none⟩ = some (.slice (some ⟨g, 0, none⟩) L cap) := HC.out.1.cell 0
    clear hR; simp only [h24]; refine if_yes (by kernel_rfl) ?_; unfold Oper.wp; go_simp
    exact ⟨.slice (some ⟨g, 0, none⟩) L cap, rfl, HC.out, Below.refl _ _, rfl⟩
   ·have h25 : u 25 = .slice (some ⟨g, 0, none⟩) L cap := hR ⟨3, .data⟩ (by simp) rfl; clear hR; simp only [h25]; refine if_yes (by kernel_rfl) ?_; unfold Oper.wp; go_simp; exact ⟨.int .i64 (L : Int), rfl, HC.out, Below.refl _ _, rfl⟩
   ·clear hR; refine if_yes (by kernel_rfl) ?_; unfold Oper.wp; go_simp; exact ⟨.pointer (some ⟨o, 0, none⟩), rfl, HC.out, Below.refl _ _, rfl⟩
   ·have h27 : u 27 = .pointer (some ⟨o, 0, none⟩) := hR ⟨5, .data⟩ (by simp) rfl; clear hR; simp only [h27]; refine if_yes (by kernel_rfl) ?_; unfold Oper.wp; go_simp; exact ⟨.pointer (some ⟨o, 0, none⟩), rfl, HC.out, Below.refl _ _, rfl⟩
   ·have h28 : u 28 = .pointer (some ⟨o, 0, none⟩) := hR ⟨6, .data⟩ (by simp) rfl; clear hR; simp only [h28]; refine if_yes (by kernel_rfl) ?_; unfold Oper.wp; go_simp; exact ⟨.pointer (some ⟨o, 3, none⟩), rfl, HC.out, Below.refl _ _, rfl⟩
   ·have h29 : u 29 = .pointer (some ⟨o, 3, none⟩) := hR ⟨7, .data⟩ (by simp) rfl
    have hc : w'.cell? ⟨o, 3, none⟩ = some (.int .i64 (d : Int)) := HC.out.1.cell 3
    clear hR; simp only [h29]; refine if_yes (by kernel_rfl) ?_; unfold Oper.wp; go_simp; exact ⟨.int .i64 (d : Int), rfl, HC.out, Below.refl _ _, rfl⟩
   ·clear hR; refine if_yes (by kernel_rfl) ?_; unfold Oper.wp; go_simp; exact ⟨.int .i64 (i : Int), rfl, HC.out, Below.refl _ _, rfl⟩
   ·have h26 : u 26 = .int .i64 (L : Int) := hR ⟨4, .data⟩ (by simp) rfl; have h30 : u 30 = .int .i64 (d : Int) := hR ⟨8, .data⟩ (by simp) rfl; have h31 : u 31 = .int .i64 (i : Int) := hR ⟨9, .data⟩ (by simp) rfl; clear hR; simp only [h26, h30, h31]; refine if_yes (by kernel_rfl) ?_; unfold Oper.wp; go_simp
    refine (or_after (L : Int) (d : Int) (i : Int) _).mono ?_
    rintro e w2 ⟨rfl, hb2⟩
    exact ⟨.tuple #[.int .i64 (afN (L : Int) (d : Int) (i : Int)), .int .i64 (afC (L : Int) (d : Int) (i : Int))], rfl, HC.out.call hb2, hb2, rfl⟩
   ·have h32 : u 32 = .tuple #[.int .i64 (afN (L : Int) (d : Int) (i : Int)), .int .i64 (afC (L : Int) (d : Int) (i : Int))] := hR ⟨10, .data⟩ (by simp) rfl; clear hR; simp only [h32]; refine if_yes (by kernel_rfl) ?_; unfold Oper.wp; go_simp
    exact ⟨.tuple #[.int .i64 (afN (L : Int) (d : Int) (i : Int)), .int .i64 (afC (L : Int) (d : Int) (i : Int))], rfl, HC.out, Below.refl _ _, rfl⟩
   ·have h21 : u 21 = .tuple #[.int .i64 (afN (L : Int) (d : Int) (i : Int)), .int .i64 (afC (L : Int) (d : Int) (i : Int))] := hR ⟨11, .data⟩ (by simp) rfl; clear hR; simp only [h21]; refine if_yes (by kernel_rfl) ?_; unfold Oper.wp; go_simp; exact ⟨.int .i64 (afN (L : Int) (d : Int) (i : Int)), rfl, HC.out, Below.refl _ _, rfl⟩
   ·have h21 : u 21 = .tuple #[.int .i64 (afN (L : Int) (d : Int) (i : Int)), .int .i64 (afC (L : Int) (d : Int) (i : Int))] := hR ⟨11, .data⟩ (by simp) rfl; clear hR; simp only [h21]; refine if_yes (by kernel_rfl) ?_; unfold Oper.wp; go_simp; exact ⟨.int .i64 (afC (L : Int) (d : Int) (i : Int)), rfl, HC.out, Below.refl _ _, rfl⟩
   ·have h33 : u 33 = .int .i64 (afN (L : Int) (d : Int) (i : Int)) := hR ⟨12, .data⟩ (by simp) rfl; clear hR; simp only [h33]; refine if_yes (by kernel_rfl) ?_; unfold Oper.wp; go_simp; exact ⟨.int .i64 (afN (L : Int) (d : Int) (i : Int)), rfl, HC.out, Below.refl _ _, rfl⟩
   ·have h34 : u 34 = .int .i64 (afC (L : Int) (d : Int) (i : Int)) := hR ⟨13, .data⟩ (by simp) rfl; clear hR; simp only [h34]; refine if_yes (by kernel_rfl) ?_; unfold Oper.wp; go_simp; exact ⟨.int .i64 (afC (L : Int) (d : Int) (i : Int)), rfl, HC.out, Below.refl _ _, rfl⟩
  ·intro a w' hC hB hR
   have h6 := hR 14 (by decide)
   obtain ⟨u, rfl⟩ := hB
   have h6 : u 6 = .int .i64 (afN (L : Int) (d : Int) (i : Int)) := h6
   have HK1 := Lib.hid (HN1.out.after hC.2)
   have HK2 := Lib.hid (HN2.out.after hC.2)
   have HB3 := Lib.hid (HB2.out.trans (hC.2.mono HB2.out.size))
   rw [HAF.out] at h6
   simp only [h6]; clear h6 hR hC HAF HC0 HN1 HN2 HB2
   obtain ⟨n, hn⟩ : ∃ n, afterC L d i = n := ⟨_, rfl⟩
   have hn2 : n ≤ 2 := by rw [← hn]; exact after_le _ _ _
   have HN := Lib.hid hn
   rw [hn]
   clear hn
   by_cases h1n : n = 1
   ·subst h1n
    go_wp2_with (first
     | (refine wpList_load_row rfl 116 (.tmp 5) rfl (w.heap.size + 1) rfl 116 (lv ln) (0, 0) _ HK2.out Tryz.underlying116 rfl size_line ?_))
    refine (ce_hurtBy ln 0 0 _ HS.out).mono ?_
    rintro e w4 ⟨rfl, hb4⟩
    have HK4 := Lib.hid (HK1.out.after hb4)
    have HB4 := Lib.hid (HB3.out.trans (hb4.mono HB3.out.size))
    clear hb4
    go_wp2_with (first
     | (refine wpList_store_row rfl 116 (.tmp 4) (.tmp 39) rfl w.heap.size (lv (hurtL ln 0 0)) rfl rfl 116 (lv l0) HK4.out size_line rfl (lv_one _) ?_))
    exact bodyPost_ret (results_cell_row (P := Tryz.prog) rfl _ _ w.heap.size 116 (lv (hurtL ln 0 0)) (0, 0) _ rfl (HK4.out.put _) Tryz.underlying116 rfl size_line) rfl ⟨by rw [HX1.out ⟨by trivial, HN.out⟩], below_put (Nat.le_refl _) _ HB4.out⟩
   ·have HR := Lib.hid (HX0.out (fun h => h1n (by rw [← HN.out]; exact h.2)))
    have h1b : ((n : Int) == 1) = false := by simp; omega
    have h1i : ¬ (n : Int) = 1 := by omega
    go_wp2_with (first
     | (refine wpList_load_row rfl 116 (.tmp 5) rfl (w.heap.size + 1) rfl 116 (lv ln) (0, 0) _ HK2.out Tryz.underlying116 rfl size_line ?_)
     | (refine wpList_store_row rfl 116 (.tmp 4) (.tmp 37) rfl w.heap.size (lv ln) rfl rfl 116 (lv l0) HK1.out size_line rfl (lv_one _) ?_))
    exact bodyPost_ret (results_cell_row (P := Tryz.prog) rfl _ _ w.heap.size 116 (lv ln) (0, 0) _ rfl (HK1.out.put _) Tryz.underlying116 rfl size_line) rfl ⟨by rw [HR.out], below_put (Nat.le_refl _) _ HB3.out⟩
 ·have HR := Lib.hid (HX0.out (fun h => hm2 h.1))
  have h1b : (m == 2) = false := by simpa using hm2
  go_wp2_with (first
   | (refine wpList_load_mid rfl 116 (.tmp 13) rfl g (i * 4) rfl (lnL ln) _ HRG.out Tryz.underlying116 rfl size_line ?_)
   | (refine wpList_store_row rfl 116 (.tmp 5) (.tmp 14) rfl (w.heap.size + 1) (lv ln) rfl rfl 116 (lv l0) HZ2.out size_line rfl (lv_one _) ?_; change wpList _ _ _ _ _ (((w.alloc (.cells #[.string ⟨#[]⟩, .string ⟨#[]⟩, .string ⟨#[]⟩, .bool false] 116)).alloc (.cells #[.string ⟨#[]⟩, .string ⟨#[]⟩, .string ⟨#[]⟩, .bool false] 116)).setRow (w.heap.size + 1) (lv ln)); rw [HW2.out])
   | (refine wpList_load_row rfl 116 (.tmp 5) rfl (w.heap.size + 1) rfl 116 (lv ln) (0, 0) _ HN2.out Tryz.underlying116 rfl size_line ?_)
   | (refine wpList_store_row rfl 116 (.tmp 4) (.tmp 20) rfl w.heap.size (lv ln) rfl rfl 116 (lv l0) HN1.out size_line rfl (lv_one _) ?_))
  exact bodyPost_ret (results_cell_row (P := Tryz.prog) rfl _ _ w.heap.size 116 (lv ln) (0, 0) _ rfl (HN1.out.put _) Tryz.underlying116 rfl size_line) rfl ⟨by rw [HR.out], below_put (Nat.le_refl _) _ HB2.out⟩
/- Package cell, walked: count, empty, and what a cell is asked. -/
theorem ce_count (o L g cap : Nat) (bl : ByteArray) (m : Int) (d sl tl : Nat) (bad torn : Bool) (w : World) (hk : Blk w o (cc L g cap bl m d sl tl bad torn) 103) (h1 : sl < 1000000000) (h2 : tl < 1000000000) :
  Calls Tryz.prog 96 #[.pointer (some ⟨o, 0, none⟩)] w fun e w' => e = .returned (.tuple #[]) ∧ Blk w' o (cc L g cap bl m d (if m = 2 then sl else sl + 1) (if m = 2 then tl + 1 else tl) bad torn) 103 ∧ Only (fun k => k = o) w w' := by
 have c2 : w.cell? ⟨o, 2, none⟩ = some (.int .i64 m) := hk.cell 2
 have c4 : w.cell? ⟨o, 4, none⟩ = some (.int .i64 (sl : Int)) := hk.cell 4
 have c5 : w.cell? ⟨o, 5, none⟩ = some (.int .i64 (tl : Int)) := hk.cell 5
 have f4 := hk.free 4
 have f5 := hk.free 5
 have HK := Lib.hid hk
 clear hk
 by_cases hm : m = 2
 ·subst hm
  rw [if_pos rfl, if_pos rfl]
  go_enter Tryz.func96, Tryz.ntmps96
  go_wp2_with fail
  refine bodyPost_ret (results_none rfl _ _ _) rfl ⟨rfl, HK.out.set 5 _ ?_, (Only.refl _ _).setCell _ _ rfl⟩
  unfold cc
  simp
 ·rw [if_neg hm, if_neg hm]
  have h1b : (m == 2) = false := by simpa using hm
  go_enter Tryz.func96, Tryz.ntmps96
  go_wp2_with fail
  refine bodyPost_end (results_none rfl _ _ _) rfl ⟨rfl, HK.out.set 4 _ ?_, (Only.refl _ _).setCell _ _ rfl⟩
  unfold cc
  simp
def blankL (bl : ByteArray) : Ln := ⟨bl, bl, bl, false⟩
theorem all_blank {bl : ByteArray} {ls : List Ln} {L : Nat} (hl : ls.length = L) (h : ∀ j, j < L → lnAt ls j = blankL bl) : ls = List.replicate L (blankL bl) := by
 refine List.ext_getElem (by simp [hl]) fun j h1 h2 => ?_
 have h3 := h j (by omega)
 unfold lnAt at h3
 rw [List.getD_eq_getElem?_getD, List.getElem?_eq_getElem h1] at h3
 simpa using h3
set_option maxHeartbeats 1000000 in
theorem ce_empty (o L g cap : Nat) (bl : ByteArray) (m : Int) (d sl tl : Nat) (bad torn : Bool) (ls : List Ln) (w : World) (hk : Blk w o (cc L g cap bl m d sl tl bad torn) 103) (hl : LnsAt w g ls) (hlen : ls.length = L) (hne : o ≠ g)
  (h64 : L ≤ 64) :
  Calls Tryz.prog 64 #[.pointer (some ⟨o, 0, none⟩)] w fun e w' => e = .returned (.tuple #[]) ∧ Blk w' o (cc L g cap bl 0 0 sl tl bad false) 103 ∧ LnsAt w' g (List.replicate L (blankL bl)) ∧ Only (fun k => k = o ∨ k = g) w w' := by
 have c0 : w.cell? ⟨o, 0, none⟩ = some (.slice (some ⟨g, 0, none⟩) L cap) := hk.cell 0
 have HI : Hid (Blk w o (cc L g cap bl m d sl tl bad torn) 103 ∧ ∃ l2 : List Ln, l2.length = L ∧ (∀ j, j < 0 → lnAt l2 j = blankL bl) ∧ LnsAt w g l2) := ⟨hk, ls, hlen, fun j hj => absurd hj (Nat.not_lt_zero _), hl⟩
 have HNE := Lib.hid hne
 clear hk hl hlen hne
 go_enter Tryz.func64, Tryz.ntmps64
 go_wp2_with fail
 go_loopw [8] (fun iv wr => ∃ i : Nat, i ≤ L ∧ iv = .int .i64 i ∧ Blk wr o (cc L g cap bl m d sl tl bad torn) 103 ∧ (∃ l2 : List Ln, l2.length = L ∧ (∀ j, j < i → lnAt l2 j = blankL bl) ∧ LnsAt wr g l2) ∧ Only (fun k => k = o ∨ k = g) w wr) (fun iv _ => L - (intOf iv).toNat)
 case atStart => exact ⟨0, Nat.zero_le _, rfl, HI.out.1, HI.out.2, Only.refl _ _⟩
 case round =>
  obtain ⟨i, hi, rfl, hk, ⟨l2, hl2, hj2, hr2⟩, ho⟩ := hrel
  have HK := Lib.hid hk
  have HO := Lib.hid ho
  have HL2 := Lib.hid hl2
  have HJ2 := Lib.hid hj2
  have HR2 := Lib.hid hr2
  clear HI
  by_cases hlt : i < L
  ·have d0 : wr.cell? ⟨o, 0, none⟩ = some (.slice (some ⟨g, 0, none⟩) L cap) := hk.cell 0
   have d1 : wr.cell? ⟨o, 1, none⟩ = some (.string bl) := hk.cell 1
   clear c0 hk hl2 hj2 hr2 ho
   go_wp2_with fail
   go_still_tail 20, (by kernel_rfl)
   change wpList _ _ _ _ _ wr.drew
   have ht : wr.drew.there g (i * 4) 4 := (World.there_drew _ _ _ _).2 (HR2.out i (by rw [HL2.out]; exact hlt)).2
   have HT := Lib.hid ht
   clear d0 d1 ht
   go_wp2_with (refine wpList_store_mid rfl 116 (.tmp 30) (.tmp 29) rfl g (i * 4) (lv (blankL bl)) rfl rfl HT.out size_line (lv_one _) ?_)
   go_roundw
   case rel =>
    refine ⟨i + 1, by omega, by go_num, ?_, ⟨l2.set i (blankL bl), by rw [List.length_set]; exact HL2.out, fun j hj => ?_, ?_⟩, Only.setCells g (Or.inr rfl) _ _ _ HO.out.drew⟩
    ·have h1 := HK.out.drew
     unfold Blk at *
     rw [setCells_heap_ne _ _ HNE.out]
     exact h1
    ·rw [lnAt_set _ _ _ _ (by rw [HL2.out]; exact hlt)]
     split
     ·rfl
     ·exact HJ2.out j (by omega)
    ·have h2 : LnsAt wr.drew g l2 := HR2.out.keep rfl
     exact h2.set i (blankL bl) (by rw [HL2.out]; exact hlt)
   case measure => simp [intOf]; omega
  ·have hiL : i = L := by omega
   have f2 := hk.free 2
   have f3 := hk.free 3
   have f7 := hk.free 7
   have d2 : wr.cell? ⟨o, 2, none⟩ = some (.int .i64 m) := hk.cell 2
   have d3 : wr.cell? ⟨o, 3, none⟩ = some (.int .i64 d) := hk.cell 3
   have d7 : wr.cell? ⟨o, 7, none⟩ = some (.bool torn) := hk.cell 7
   clear c0 hk hl2 hj2 hr2 ho
   go_wp2_with fail
   have hr := all_blank HL2.out (fun j hj => HJ2.out j (by omega))
   have hk5 : Blk (((wr.setCell ⟨o, 2, none⟩ (.int .i64 0)).setCell ⟨o, 3, none⟩ (.int .i64 0)).setCell ⟨o, 7, none⟩ (.bool false)) o (cc L g cap bl 0 0 sl tl bad false) 103 := ((HK.out.set 2 _ rfl).set 3 _ rfl).set 7 _ rfl
   have hne := HNE.out
   refine bodyPost_end (results_none rfl _ _ _) rfl ⟨rfl, hk5, ?_, ?_⟩
   ·rw [← hr]
    refine HR2.out.keep ?_
    rw [Below.heap_setCell _ _ _ _ (by exact hne.symm), Below.heap_setCell _ _ _ _ (by exact hne.symm), Below.heap_setCell _ _ _ _ (by exact hne.symm)]
   ·exact ((HO.out.setCell ⟨o, 2, none⟩ _ (Or.inl rfl)).setCell ⟨o, 3, none⟩ _ (Or.inl rfl)).setCell ⟨o, 7, none⟩ _ (Or.inl rfl)
theorem ce_mode0 (o : Nat) (cs : Array Value) (w : World) (m : Int) (hk : Blk w o cs 103) (hc : cs[2]? = some (.int .i64 m)) : Calls Tryz.prog 101 #[.pointer (some ⟨o, 0, none⟩)] w fun e w' => e = .returned (.int .i64 m) ∧ w = w' := by
 have c : w.cell? ⟨o, 2, none⟩ = some (.int .i64 m) := (hk.cell 2).trans hc
 clear hk hc
 go_enter Tryz.func101, Tryz.ntmps101
 go_wp2_with fail
 go_ret
 exact ⟨rfl, rfl⟩
theorem ce_bad0 (o : Nat) (cs : Array Value) (w : World) (m : Bool) (hk : Blk w o cs 103) (hc : cs[6]? = some (.bool m)) : Calls Tryz.prog 100 #[.pointer (some ⟨o, 0, none⟩)] w fun e w' => e = .returned (.bool m) ∧ w = w' := by
 have c : w.cell? ⟨o, 6, none⟩ = some (.bool m) := (hk.cell 6).trans hc
 clear hk hc
 go_enter Tryz.func100, Tryz.ntmps100
 go_wp2_with fail
 go_ret
 exact ⟨rfl, rfl⟩
theorem ce_counts0 (o : Nat) (cs : Array Value) (w : World) (a b : Int) (hk : Blk w o cs 103) (hc : cs[4]? = some (.int .i64 a)) (hd : cs[5]? = some (.int .i64 b)) : Calls Tryz.prog 99 #[.pointer (some ⟨o, 0, none⟩)] w fun e w' => e = .returned (.tuple #[.int .i64 a, .int .i64 b]) ∧ Below w.heap.size w w' := by
 have c4 : w.cell? ⟨o, 4, none⟩ = some (.int .i64 a) := (hk.cell 4).trans hc
 have c5 : w.cell? ⟨o, 5, none⟩ = some (.int .i64 b) := (hk.cell 5).trans hd
 clear hk hc hd
 go_enter Tryz.func99, Tryz.ntmps99
 go_wp2_with fail
 go_quiet (fail)
 go_wp2_with fail
 go_ret2
 exact ⟨rfl, drewN_below2 _ _ _⟩
/- Package cell, walked: isNext. -/
def ZS : Array Value := #[.int .i64 0, .bool false]
def KeepT (A B : Array Value) (w w' : World) : Prop := (∀ b, Blk w b A 131 → Blk w' b A 131 ∨ Blk w' b B 131) ∧ (∀ b, Blk w b B 131 → Blk w' b B 131)
theorem KeepT.refl (A B : Array Value) (w : World) : KeepT A B w w := ⟨fun _ h => Or.inl h, fun _ h => h⟩
theorem KeepT.call (A B : Array Value) {w w' : World} (hb : Below w.heap.size w w') : KeepT A B w w' := ⟨fun _ h => Or.inl (h.after hb), fun _ h => h.after hb⟩
theorem KeepT.put (A B : Array Value) {w : World} {z : Nat} {cs : Array Value} (hz : Blk w z cs 131) : KeepT A B w (w.setRow z B) := by
 refine ⟨fun b h => ?_, fun b h => ?_⟩
 ·by_cases e : b = z
  ·subst e; exact Or.inr (hz.put B)
  ·exact Or.inl (h.put_other (Ne.symm e) B)
 ·by_cases e : b = z
  ·subst e; exact hz.put B
  ·exact h.put_other (Ne.symm e) B
theorem CB.put {w0 w : World} {o z : Nat} {cs ds : Array Value} (h : CB w0 o cs w) (ho : o < w0.heap.size) (hz : w0.heap.size ≤ z) : CB w0 o cs (w.setRow z ds) := ⟨h.1.put_other (by omega) _, below_put hz _ h.2⟩
def SpIN (w0 : World) (A B : Array Value) (j : Nat) (a : Act) (w : World) : Prop :=
 (j = 13 → ∃ z, a.tmps.getD 5 undef = .pointer (some ⟨z, 0, none⟩) ∧ w0.heap.size ≤ z ∧ (Blk w z A 131 ∨ Blk w z B 131))
 ∧ (j = 14 → ∃ z, a.tmps.getD 5 undef = .pointer (some ⟨z, 0, none⟩) ∧ w0.heap.size ≤ z ∧ Blk w z B 131)
theorem SpIN.ext (w0 : World) (A B : Array Value) : ∀ (j : Nat) (a a' : Act) (w w' : World), SpIN w0 A B j a w → (∀ d ∈ (if j = 13 ∨ j = 14 then [5] else []), a'.tmps.getD d undef = a.tmps.getD d undef) → KeepT A B w w' → SpIN w0 A B j a' w' := by
 rintro j a a' w w' ⟨f1, f2⟩ hx hT
 refine ⟨fun h => ?_, fun h => ?_⟩
 ·obtain ⟨z, h1, h2, h3⟩ := f1 h
  refine ⟨z, (hx 5 (by rw [if_pos (Or.inl h)]; exact List.mem_singleton_self _)).trans h1, h2, ?_⟩
  rcases h3 with h3 | h3
  ·exact hT.1 z h3
  ·exact Or.inr (hT.2 z h3)
 ·obtain ⟨z, h1, h2, h3⟩ := f2 h
  exact ⟨z, (hx 5 (by rw [if_pos (Or.inr h)]; exact List.mem_singleton_self _)).trans h1, h2, hT.2 z h3⟩
def vsIN (o g cap L d : Nat) (x : Int) (y : Bool) (c : Int) : List (Option (Tmp × Value)) :=
 [some (8, .pointer (some ⟨o, 0, none⟩)), some (9, .pointer (some ⟨o, 0, none⟩)), some (10, .pointer (some ⟨o, 0, none⟩)), some (11, .slice (some ⟨g, 0, none⟩) L cap), some (12, .int .i64 (L : Int)), some (13, .pointer (some ⟨o, 0, none⟩)), some (14, .pointer (some ⟨o, 0, none⟩)), some (15, .pointer (some ⟨o, 3, none⟩)), some (16, .int .i64 (d : Int)), some (17, .tuple #[.agg (sv x y), .int .i64 c]), some (7, .tuple #[.agg (sv x y), .int .i64 c]), some (18, .agg (sv x y)), some (19, .int .i64 c), none, none, some (6, .int .i64 c)]
def BaseIN (o B : Nat) (a : Act) : Prop := ∃ u : Nat → Value, a = ⟨#[.pointer (some ⟨o, 0, none⟩), u 1, u 2, .pointer (some ⟨B, 0, none⟩), u 4, u 5, u 6, u 7, u 8, u 9, u 10, u 11, u 12, u 13, u 14, u 15, u 16, u 17, u 18, u 19, u 20, u 21, u 22, u 23, u 24, u 25, u 26], []⟩
set_option maxHeartbeats 1000000 in
theorem ce_isNext (o L g cap : Nat) (bl : ByteArray) (m : Int) (d sl tl : Nat) (bad torn : Bool) (l : Int) (f : Bool) (w : World) (hk : Blk w o (cc L g cap bl m d sl tl bad torn) 103) :
  Calls Tryz.prog 93 #[.pointer (some ⟨o, 0, none⟩), .agg (sv l f)] w fun e w' => e = .returned (.bool (stC (L : Int) (d : Int) == 0 && sameS (stL (L : Int) (d : Int)) (stF (L : Int) (d : Int)) l f)) ∧ Below w.heap.size w w' := by
 have hc : stC (L : Int) (d : Int) = 0 ∨ stC (L : Int) (d : Int) = 1 := by unfold stC; split; exact Or.inl rfl; exact Or.inr rfl
 have HAT := Lib.hid (fun w => or_at (L : Int) (d : Int) w)
 unfold StepT at HAT
 obtain ⟨c, hcc⟩ : ∃ c, stC (L : Int) (d : Int) = c := ⟨_, rfl⟩
 obtain ⟨x, hx⟩ : ∃ x, stL (L : Int) (d : Int) = x := ⟨_, rfl⟩
 obtain ⟨y, hy⟩ : ∃ y, stF (L : Int) (d : Int) = y := ⟨_, rfl⟩
 simp only [hcc, hx, hy] at HAT
 rw [hcc] at hc
 rw [hcc, hx, hy]
 clear hcc hx hy
 obtain ⟨w1, hw1⟩ : ∃ w1, w.alloc (.cells (sv l f) 131) = w1 := ⟨_, rfl⟩
 have hb1 : Below w.heap.size w w1 := by rw [← hw1]; exact (Below.refl _ _).alloc (Nat.le_refl _) _
 have hn1 : Blk w1 w.heap.size (sv l f) 131 := by rw [← hw1]; exact Blk.new w _ _
 have HC0 : Hid (CB w1 o (cc L g cap bl m d sl tl bad torn) w1) := ⟨hk.after hb1, Below.refl _ _⟩
 have HLT : Hid (o < w1.heap.size) := (hk.after hb1).lt
 have HB1 := Lib.hid hb1
 have HN1 := Lib.hid hn1
 have HW1 := Lib.hid hw1
 clear hk hb1 hn1 hw1
 go_enter Tryz.func93, Tryz.ntmps93
 go_wp2_with fail
 change Code.wp _ _ _ _ (w.alloc (.cells (sv l f) 131))
 rw [HW1.out]
 rename_i K0 hK0
 refine wp_region_list3 (SV2 (vsIN o g cap L d x y c) (fun j => if j = 13 ∨ j = 14 then [5] else [])) (BaseIN o w.heap.size) (CB w1 o (cc L g cap bl m d sl tl bad torn)) (KeepT ZS (sv x y)) (RV (vsIN o g cap L d x y c) (SpIN w1 ZS (sv x y))) rfl (by kernel_rfl) (RV.ext2 (SpIN.ext _ _ _)) ?_ (HC0.out.call (Below.refl _ _).drew) (fr_of _ (by kernel_rfl)) ?_ ?_
 ·exact ⟨fr_put 8 fun _ _ => by kernel_rfl, fr_put 9 fun _ _ => by kernel_rfl, fr_put 10 fun _ _ => by kernel_rfl, fr_put 11 fun _ _ => by kernel_rfl, fr_put 12 fun _ _ => by kernel_rfl, fr_put 13 fun _ _ => by kernel_rfl, fr_put 14 fun _ _ => by kernel_rfl, fr_put 15 fun _ _ => by kernel_rfl, fr_put 16 fun _ _ => by kernel_rfl, fr_put 17 fun _ _ => by kernel_rfl, fr_put 7 fun _ _ => by kernel_rfl, fr_put 18 fun _ _ => by kernel_rfl, fr_put 19 fun _ _ => by kernel_rfl, fr_put 5 fun _ _ => by kernel_rfl, fun a v h => h, fr_put 6 fun _ _ => by kernel_rfl, trivial⟩
 ·refine ⟨?_, ?_, ?_, ?_, ?_, ?_, ?_, ?_, ?_, ?_, ?_, ?_, ?_, ?_, ?_, ?_, trivial⟩
  all_goals
   intro a w' hC hB hR
   obtain ⟨u, rfl⟩ := hB
   have HC := Lib.hid hC
   clear hC; clear hK0
  ·clear hR; refine if_yes (by kernel_rfl) ?_; unfold Oper.wp; go_simp; exact ⟨.pointer (some ⟨o, 0, none⟩), rfl, HC.out, KeepT.refl _ _ _, rfl⟩
  ·have h8 : u 8 = .pointer (some ⟨o, 0, none⟩) := hR ⟨0, .data⟩ (by simp) rfl; clear hR; simp only [h8]; refine if_yes (by kernel_rfl) ?_; unfold Oper.wp; go_simp; exact ⟨.pointer (some ⟨o, 0, none⟩), rfl, HC.out, KeepT.refl _ _ _, rfl⟩
  ·have h9 : u 9 = .pointer (some ⟨o, 0, none⟩) := hR ⟨1, .data⟩ (by simp) rfl; clear hR; simp only [h9]; refine if_yes (by kernel_rfl) ?_; unfold Oper.wp; go_simp; exact ⟨.pointer (some ⟨o, 0, none⟩), rfl, HC.out, KeepT.refl _ _ _, rfl⟩
  ·have h10 : u 10 = .pointer (some ⟨o, 0, none⟩) := hR ⟨2, .data⟩ (by simp) rfl
   have hc : w'.cell? ⟨o, 0, none⟩ = some (.slice (some ⟨g, 0, none⟩) L cap) := HC.out.1.cell 0
   clear hR; simp only [h10]; refine if_yes (by kernel_rfl) ?_; unfold Oper.wp; go_simp
   exact ⟨.slice (some ⟨g, 0, none⟩) L cap, rfl, HC.out, KeepT.refl _ _ _, rfl⟩
  ·have h11 : u 11 = .slice (some ⟨g, 0, none⟩) L cap := hR ⟨3, .data⟩ (by simp) rfl; clear hR; simp only [h11]; refine if_yes (by kernel_rfl) ?_; unfold Oper.wp; go_simp; exact ⟨.int .i64 (L : Int), rfl, HC.out, KeepT.refl _ _ _, rfl⟩
  ·clear hR; refine if_yes (by kernel_rfl) ?_; unfold Oper.wp; go_simp; exact ⟨.pointer (some ⟨o, 0, none⟩), rfl, HC.out, KeepT.refl _ _ _, rfl⟩
  ·have h13 : u 13 = .pointer (some ⟨o, 0, none⟩) := hR ⟨5, .data⟩ (by simp) rfl; clear hR; simp only [h13]; refine if_yes (by kernel_rfl) ?_; unfold Oper.wp; go_simp; exact ⟨.pointer (some ⟨o, 0, none⟩), rfl, HC.out, KeepT.refl _ _ _, rfl⟩
  ·have h14 : u 14 = .pointer (some ⟨o, 0, none⟩) := hR ⟨6, .data⟩ (by simp) rfl; clear hR; simp only [h14]; refine if_yes (by kernel_rfl) ?_; unfold Oper.wp; go_simp; exact ⟨.pointer (some ⟨o, 3, none⟩), rfl, HC.out, KeepT.refl _ _ _, rfl⟩
  ·have h15 : u 15 = .pointer (some ⟨o, 3, none⟩) := hR ⟨7, .data⟩ (by simp) rfl
   have hc : w'.cell? ⟨o, 3, none⟩ = some (.int .i64 (d : Int)) := HC.out.1.cell 3
   clear hR; simp only [h15]; refine if_yes (by kernel_rfl) ?_; unfold Oper.wp; go_simp; exact ⟨.int .i64 (d : Int), rfl, HC.out, KeepT.refl _ _ _, rfl⟩
  ·have h12 : u 12 = .int .i64 (L : Int) := hR ⟨4, .data⟩ (by simp) rfl; have h16 : u 16 = .int .i64 (d : Int) := hR ⟨8, .data⟩ (by simp) rfl; clear hR; simp only [h12, h16]; refine if_yes (by kernel_rfl) ?_; unfold Oper.wp; go_simp
   refine (HAT.out _).mono ?_
   rintro e w2 ⟨rfl, hb2⟩
   exact ⟨.tuple #[.agg (sv x y), .int .i64 c], rfl, HC.out.call hb2, KeepT.call _ _ hb2, rfl⟩
  ·have h17 : u 17 = .tuple #[.agg (sv x y), .int .i64 c] := hR ⟨9, .data⟩ (by simp) rfl; clear hR; simp only [h17]; refine if_yes (by kernel_rfl) ?_; unfold Oper.wp; go_simp
   exact ⟨.tuple #[.agg (sv x y), .int .i64 c], rfl, HC.out, KeepT.refl _ _ _, rfl⟩
  ·have h7 : u 7 = .tuple #[.agg (sv x y), .int .i64 c] := hR ⟨10, .data⟩ (by simp) rfl; clear hR; simp only [h7]; refine if_yes (by kernel_rfl) ?_; unfold Oper.wp; go_simp
   exact ⟨.agg (sv x y), rfl, HC.out, KeepT.refl _ _ _, rfl⟩
  ·have h7 : u 7 = .tuple #[.agg (sv x y), .int .i64 c] := hR ⟨10, .data⟩ (by simp) rfl; clear hR; simp only [h7]; refine if_yes (by kernel_rfl) ?_; unfold Oper.wp; go_simp; exact ⟨.int .i64 c, rfl, HC.out, KeepT.refl _ _ _, rfl⟩
  ·clear hR; refine if_yes (by kernel_rfl) ?_; unfold Oper.wp; go_simp; exact ⟨.pointer (some ⟨w'.heap.size, 0, none⟩), rfl, HC.out.call ((Below.refl _ _).alloc (Nat.le_refl _) _), KeepT.call _ _ ((Below.refl _ _).alloc (Nat.le_refl _) _), ⟨fun _ => ⟨w'.heap.size, rfl, HC.out.2.size, Or.inl (Blk.new w' _ _)⟩, fun h => absurd h (by decide)⟩⟩
  ·have h18 : u 18 = .agg (sv x y) := hR ⟨11, .data⟩ (by simp) rfl
   obtain ⟨z, hz, hz2, hz3⟩ := (hR ⟨13, .data⟩ (by simp) rfl).1 rfl
   have hz : u 5 = .pointer (some ⟨z, 0, none⟩) := hz
   clear hR; simp only [h18]; refine if_yes (by kernel_rfl) ?_; simp only [hz]
   have hzz : ∃ cs : Array Value, cs.size = 2 ∧ Blk w' z cs 131 := hz3.elim (fun h => ⟨_, rfl, h⟩) (fun h => ⟨_, rfl, h⟩)
   obtain ⟨cs, hcs, hzb⟩ := hzz
   exact wp_store_row 131 (.tmp 5) (.tmp 18) rfl z (sv x y) rfl rfl 131 cs hzb size_step (by rw [hcs]; rfl) (sv_one _ _) ⟨undef, rfl, CB.put HC.out (HLT.out) hz2, KeepT.put _ _ hzb, ⟨fun h => absurd h (by decide), fun _ => ⟨z, rfl, hz2, hzb.put _⟩⟩⟩
  ·have h19 : u 19 = .int .i64 c := hR ⟨12, .data⟩ (by simp) rfl; clear hR; simp only [h19]; refine if_yes (by kernel_rfl) ?_; unfold Oper.wp; go_simp; exact ⟨.int .i64 c, rfl, HC.out, KeepT.refl _ _ _, rfl⟩
 ·intro a w' hC hB hR
  have h6 := hR 15 (by decide)
  have h5 := hR 14 (by decide)
  obtain ⟨u, rfl⟩ := hB
  have h6 : u 6 = .int .i64 c := h6
  obtain ⟨z, hz1, _, hz3⟩ := h5.2 rfl
  have hz1 : u 5 = .pointer (some ⟨z, 0, none⟩) := hz1
  simp only [h6, hz1]
  have HZ := Lib.hid hz3
  have HN := Lib.hid (HN1.out.after hC.2)
  have HB3 := Lib.hid (HB1.out.trans (hC.2.mono HB1.out.size))
  clear hR h5 h6 hz1 hz3 hC HC0 HB1 HN1 HLT HW1 HAT
  have heq : ∀ W, Sem.run Tryz.prog (binOp .eql 131 (.agg (sv x y)) (.agg (sv l f))) W = .ok (.bool (sameS x y l f)) W := fun W => eql_step x l y f W
  rcases hc with rfl | rfl
  ·go_wp2_with (first
    | (refine wpList_load_row_if (by kernel_rfl) 131 (.tmp 5) rfl z rfl 131 (sv x y) (0, 0) _ HZ.out Tryz.underlying131 rfl size_step ?_)
    | (refine wpList_load_row_if (by kernel_rfl) 131 (.tmp 3) rfl w.heap.size rfl 131 (sv l f) (0, 0) _ HN.out Tryz.underlying131 rfl size_step ?_))
   go_ret
   exact ⟨ret_bool (by simp), HB3.out⟩
  ·go_wp2_with fail
   go_ret
   exact ⟨ret_bool (by simp), HB3.out⟩
end Go.Proofs.YtalefbmoebobkaaGreatDoor
