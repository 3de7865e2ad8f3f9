/- Texts of one claim, merged: SnL5. -/
import Derived.Test.YtidakannaephoaaDoorS13
import Derived.Test.YtidakannaephoaaDoorS10

/- The law SnapPuts. -/
namespace Go.Proofs.YtidakannaephoaaDoor
set_option maxRecDepth 100000
open Go.RowKit

theorem rsn_putC (w : World) (b l y n s r : Int) (A : Array Value) (x : Sn) (hA : SnAt w A x) : Calls Tryd.prog 8 #[.agg (gv b l y n s r), .agg A] w (PutC b l y n s r x w) :=
  (rsn_put w b l y n s r A x hA).mono fun _ _ h => putS_c h
/-- what the document's Take answers -/
def TakeD (b l y n s r : Int) (ps : List ByteArray) (w : World) (e : Ending) (w' : World) : Prop :=
  (∃ A, e = .returned (.tuple #[.agg A, .int .i64 (tkE b l y n s r ps)]) ∧ SnAt w' A (tkX b l y n s r ps)) ∧ Below w.heap.size w w'
theorem rsn_takeC (w : World) (b l y n s r : Int) (v : Value) (ps : List ByteArray) (hz : ps.length ≤ 1000000) (hv : TsAt w v ps) : Calls Tryd.prog 10 #[.agg (gv b l y n s r), v] w (TakeD b l y n s r ps w) := by
  refine (rsn_take w b l y n s r v ps hz hv).mono ?_
  rintro e w' ⟨h1, h2, h3, h4⟩
  refine ⟨?_, h4⟩
  unfold tkE tkX
  by_cases ho : OkG b l y n s r
  · by_cases hf : PgOk b n y ps
    · obtain ⟨A, rfl, hv⟩ := h3 ho hf
      rw [if_pos ho, if_pos hf, if_pos ⟨ho, hf⟩]
      exact ⟨A, rfl, hv⟩
    · obtain rfl := h2 ho hf
      rw [if_pos ho, if_neg hf, if_neg (fun h => hf h.2)]
      exact ⟨_, rfl, snat_nil4 _⟩
  · obtain rfl := h1 ho
    rw [if_neg ho, if_neg (fun h => ho h.1)]
    exact ⟨_, rfl, snat_nil4 _⟩
theorem grown_below {w w' : World} {B z n : Nat} {v : Value} {xs : List Value} {e : TypeId} (hown : w.ownsRow B e z v n xs) (hB : B ≤ w.heap.size) (hg : w.grownBy w' v.ownBlock) : Below B w w' :=
  ⟨hg.os, hg.tape, hg.output, hg.size, fun k hk => hg.block k (by omega) (Ne.symm (own_ne hown hk))⟩
theorem own_type {w : World} {B z n : Nat} {v : Value} {xs : List Value} {e : TypeId} (hown : w.ownsRow B e z v n xs) (g : Nat) (hg : v.ownBlock = some g) : ∃ cs, Blk w g cs e := by
  rcases hown.2 with ⟨rfl, _⟩ | ⟨g', cap, cur, rfl, _, h, _⟩
  · cases hg
  · cases hg
    exact ⟨cur, h⟩
theorem blk_spoil {w w' : World} {B z n b : Nat} {v : Value} {xs : List Value} {e t : TypeId} {cs : Array Value} (hown : w.ownsRow B e z v n xs) (hg : w.grownBy w' v.ownBlock) (hb : Blk w b cs t) (hne : t ≠ e) : Blk w' b cs t :=
  blk_grownS hb hg fun he => by
    obtain ⟨ds, h⟩ := own_type hown b he
    exact blk_ne hb h hne rfl
theorem own_spoil {w w' : World} {B B' z z' n m : Nat} {u v : Value} {xs ys : List Value} {e t : TypeId} (hu : w.ownsRow B t z u n xs) (hown : w.ownsRow B' e z' v m ys) (hg : w.grownBy w' v.ownBlock) (hne : t ≠ e) : w'.ownsRow B t z u n xs := by
  refine ⟨hu.1, ?_⟩
  rcases hu.2 with ⟨rfl, h0⟩ | ⟨g, cap, cur, rfl, hbg, hgc, h1⟩
  · exact .inl ⟨rfl, h0⟩
  · have h2 : Blk w g cur t := hgc
    exact .inr ⟨g, cap, cur, rfl, hbg, blk_spoil hown hg h2 hne, h1⟩
theorem FourR.after {w w' : World} {B : Nat} {V : List Value} {L : List (List Int)} (h : FourR w B V L) (hb : Below w.heap.size w w') : FourR w' B V L := ⟨fun k hk => ownsRow_afterX (h.1 k hk) hb, h.2⟩
theorem snAt_size {w : World} {A : Array Value} {x : Sn} (h : SnAt w A x) : (Tryd.prog.info? 26).map (·.size) = some A.size := by obtain ⟨_, _, _, _, rfl, _⟩ := h; exact size_state
theorem snAt_one {w : World} {A : Array Value} {x : Sn} (h : SnAt w A x) : A.all (·.oneCell') = true := by
  obtain ⟨_, _, _, _, rfl, ⟨_, _, rfl, _⟩, ⟨_, _, rfl, _⟩, ⟨_, _, rfl, _⟩, ⟨_, _, rfl, _⟩⟩ := h
  simp [Value.oneCell']
theorem snAt_four {w : World} {A : Array Value} {x : Sn} (h : SnAt w A x) : nil4.size = A.size := by obtain ⟨_, _, _, _, rfl, _⟩ := h; rfl
theorem tk_len {b l y n s r : Int} (ps : List ByteArray) (hn : ¬ 300 < n) : (tkX b l y n s r ps).f.length ≤ 1000000 := by
  unfold tkX
  split
  · show ((List.range n.toNat).map _).length ≤ _
    rw [List.length_map, List.length_range]; omega
  · exact Nat.zero_le _

/-- what each operation of the region SQ leaves -/
def vsSQ (b l y n s r : Int) (A Ac Ad : Array Value) (va vb : Value) (pe te : Int) (q : Bool) : List (Option (Tmp × Value)) :=
  [some (63, .agg (gv b l y n s r)), some (64, .agg A), some (65, .bool q), some (66, .agg (gv b l y n s r)), some (67, .agg A), some (68, .bool q), some (69, .bool true), some (70, .bool true), some (71, va), some (72, vb), some (73, .bool true), some (74, .bool true), some (75, .bool true), some (76, .int .i64 pe), some (77, .int .i64 pe), some (78, .bool true), some (79, .bool true), some (80, .bool true), some (81, .agg Ac), some (82, .agg Ad), some (83, .bool true), some (84, .bool true), some (85, .bool true), some (86, .int .i64 te), some (87, .int .i64 te), some (88, .bool true), some (89, .bool true), some (16, .bool true)]
/-- the frame while the region SQ runs -/
def BaseSQ (B s12 s14 : Nat) (va vb : Value) (pe te : Int) (a : Act) : Prop := ∃ u : Nat → Value, a = ⟨#[u 0, u 1, u 2, .pointer (some ⟨B, 0, none⟩), .pointer (some ⟨B + 1, 0, none⟩), u 5, u 6, u 7, va, .int .i64 pe, vb, .int .i64 pe, .pointer (some ⟨s12, 0, none⟩), .int .i64 te, .pointer (some ⟨s14, 0, none⟩), .int .i64 te, u 16, u 17, u 18, u 19, u 20, u 21, u 22, u 23, u 24, u 25, u 26, u 27, u 28, u 29, u 30, u 31, u 32, u 33, u 34, u 35, u 36, u 37, u 38, u 39, u 40, u 41, u 42, u 43, u 44, u 45, u 46, u 47, u 48, u 49, u 50, u 51, u 52, u 53, u 54, u 55, u 56, u 57, u 58, u 59, u 60, u 61, u 62, u 63, u 64, u 65, u 66, u 67, u 68, u 69, u 70, u 71, u 72, u 73, u 74, u 75, u 76, u 77, u 78, u 79, u 80, u 81, u 82, u 83, u 84, u 85, u 86, u 87, u 88, u 89, u 90, u 91, u 92, u 93, u 94, u 95, u 96, u 97, u 98], []⟩
theorem BaseSQ.of {B s12 s14 : Nat} {va vb : Value} {pe te : Int} (arr : Array Value) (h : arr = #[arr.getD 0 undef, arr.getD 1 undef, arr.getD 2 undef, .pointer (some ⟨B, 0, none⟩), .pointer (some ⟨B + 1, 0, none⟩), arr.getD 5 undef, arr.getD 6 undef, arr.getD 7 undef, va, .int .i64 pe, vb, .int .i64 pe, .pointer (some ⟨s12, 0, none⟩), .int .i64 te, .pointer (some ⟨s14, 0, none⟩), .int .i64 te, arr.getD 16 undef, arr.getD 17 undef, arr.getD 18 undef, arr.getD 19 undef, arr.getD 20 undef, arr.getD 21 undef, arr.getD 22 undef, arr.getD 23 undef, arr.getD 24 undef, arr.getD 25 undef, arr.getD 26 undef, arr.getD 27 undef, arr.getD 28 undef, arr.getD 29 undef, arr.getD 30 undef, arr.getD 31 undef, arr.getD 32 undef, arr.getD 33 undef, arr.getD 34 undef, arr.getD 35 undef, arr.getD 36 undef, arr.getD 37 undef, arr.getD 38 undef, arr.getD 39 undef, arr.getD 40 undef, arr.getD 41 undef, arr.getD 42 undef, arr.getD 43 undef, arr.getD 44 undef, arr.getD 45 undef, arr.getD 46 undef, arr.getD 47 undef, arr.getD 48 undef, arr.getD 49 undef, arr.getD 50 undef, arr.getD 51 undef, arr.getD 52 undef, arr.getD 53 undef, arr.getD 54 undef, arr.getD 55 undef, arr.getD 56 undef, arr.getD 57 undef, arr.getD 58 undef, arr.getD 59 undef, arr.getD 60 undef, arr.getD 61 undef, arr.getD 62 undef, arr.getD 63 undef, arr.getD 64 undef, arr.getD 65 undef, arr.getD 66 undef, arr.getD 67 undef, arr.getD 68 undef, arr.getD 69 undef, arr.getD 70 undef, arr.getD 71 undef, arr.getD 72 undef, arr.getD 73 undef, arr.getD 74 undef, arr.getD 75 undef, arr.getD 76 undef, arr.getD 77 undef, arr.getD 78 undef, arr.getD 79 undef, arr.getD 80 undef, arr.getD 81 undef, arr.getD 82 undef, arr.getD 83 undef, arr.getD 84 undef, arr.getD 85 undef, arr.getD 86 undef, arr.getD 87 undef, arr.getD 88 undef, arr.getD 89 undef, arr.getD 90 undef, arr.getD 91 undef, arr.getD 92 undef, arr.getD 93 undef, arr.getD 94 undef, arr.getD 95 undef, arr.getD 96 undef, arr.getD 97 undef, arr.getD 98 undef]) : BaseSQ B s12 s14 va vb pe te ⟨arr, []⟩ := ⟨fun i => arr.getD i undef, by rw [← h]⟩
theorem BaseSQ.put63 {B s12 s14 : Nat} {va vb : Value} {pe te : Int} (a : Act) (v : Value) (h : BaseSQ B s12 s14 va vb pe te a) : BaseSQ B s12 s14 va vb pe te (a.put (some 63) v) := by
  obtain ⟨u, rfl⟩ := h
  exact ⟨fun i => if i = 63 then v else u i, by kernel_rfl⟩
theorem BaseSQ.put64 {B s12 s14 : Nat} {va vb : Value} {pe te : Int} (a : Act) (v : Value) (h : BaseSQ B s12 s14 va vb pe te a) : BaseSQ B s12 s14 va vb pe te (a.put (some 64) v) := by
  obtain ⟨u, rfl⟩ := h
  exact ⟨fun i => if i = 64 then v else u i, by kernel_rfl⟩
theorem BaseSQ.put65 {B s12 s14 : Nat} {va vb : Value} {pe te : Int} (a : Act) (v : Value) (h : BaseSQ B s12 s14 va vb pe te a) : BaseSQ B s12 s14 va vb pe te (a.put (some 65) v) := by
  obtain ⟨u, rfl⟩ := h
  exact ⟨fun i => if i = 65 then v else u i, by kernel_rfl⟩
theorem BaseSQ.put66 {B s12 s14 : Nat} {va vb : Value} {pe te : Int} (a : Act) (v : Value) (h : BaseSQ B s12 s14 va vb pe te a) : BaseSQ B s12 s14 va vb pe te (a.put (some 66) v) := by
  obtain ⟨u, rfl⟩ := h
  exact ⟨fun i => if i = 66 then v else u i, by kernel_rfl⟩
theorem BaseSQ.put67 {B s12 s14 : Nat} {va vb : Value} {pe te : Int} (a : Act) (v : Value) (h : BaseSQ B s12 s14 va vb pe te a) : BaseSQ B s12 s14 va vb pe te (a.put (some 67) v) := by
  obtain ⟨u, rfl⟩ := h
  exact ⟨fun i => if i = 67 then v else u i, by kernel_rfl⟩
theorem BaseSQ.put68 {B s12 s14 : Nat} {va vb : Value} {pe te : Int} (a : Act) (v : Value) (h : BaseSQ B s12 s14 va vb pe te a) : BaseSQ B s12 s14 va vb pe te (a.put (some 68) v) := by
  obtain ⟨u, rfl⟩ := h
  exact ⟨fun i => if i = 68 then v else u i, by kernel_rfl⟩
theorem BaseSQ.put69 {B s12 s14 : Nat} {va vb : Value} {pe te : Int} (a : Act) (v : Value) (h : BaseSQ B s12 s14 va vb pe te a) : BaseSQ B s12 s14 va vb pe te (a.put (some 69) v) := by
  obtain ⟨u, rfl⟩ := h
  exact ⟨fun i => if i = 69 then v else u i, by kernel_rfl⟩
theorem BaseSQ.put70 {B s12 s14 : Nat} {va vb : Value} {pe te : Int} (a : Act) (v : Value) (h : BaseSQ B s12 s14 va vb pe te a) : BaseSQ B s12 s14 va vb pe te (a.put (some 70) v) := by
  obtain ⟨u, rfl⟩ := h
  exact ⟨fun i => if i = 70 then v else u i, by kernel_rfl⟩
theorem BaseSQ.put71 {B s12 s14 : Nat} {va vb : Value} {pe te : Int} (a : Act) (v : Value) (h : BaseSQ B s12 s14 va vb pe te a) : BaseSQ B s12 s14 va vb pe te (a.put (some 71) v) := by
  obtain ⟨u, rfl⟩ := h
  exact ⟨fun i => if i = 71 then v else u i, by kernel_rfl⟩
theorem BaseSQ.put72 {B s12 s14 : Nat} {va vb : Value} {pe te : Int} (a : Act) (v : Value) (h : BaseSQ B s12 s14 va vb pe te a) : BaseSQ B s12 s14 va vb pe te (a.put (some 72) v) := by
  obtain ⟨u, rfl⟩ := h
  exact ⟨fun i => if i = 72 then v else u i, by kernel_rfl⟩
theorem BaseSQ.put73 {B s12 s14 : Nat} {va vb : Value} {pe te : Int} (a : Act) (v : Value) (h : BaseSQ B s12 s14 va vb pe te a) : BaseSQ B s12 s14 va vb pe te (a.put (some 73) v) := by
  obtain ⟨u, rfl⟩ := h
  exact ⟨fun i => if i = 73 then v else u i, by kernel_rfl⟩
theorem BaseSQ.put74 {B s12 s14 : Nat} {va vb : Value} {pe te : Int} (a : Act) (v : Value) (h : BaseSQ B s12 s14 va vb pe te a) : BaseSQ B s12 s14 va vb pe te (a.put (some 74) v) := by
  obtain ⟨u, rfl⟩ := h
  exact ⟨fun i => if i = 74 then v else u i, by kernel_rfl⟩
theorem BaseSQ.put75 {B s12 s14 : Nat} {va vb : Value} {pe te : Int} (a : Act) (v : Value) (h : BaseSQ B s12 s14 va vb pe te a) : BaseSQ B s12 s14 va vb pe te (a.put (some 75) v) := by
  obtain ⟨u, rfl⟩ := h
  exact ⟨fun i => if i = 75 then v else u i, by kernel_rfl⟩
theorem BaseSQ.put76 {B s12 s14 : Nat} {va vb : Value} {pe te : Int} (a : Act) (v : Value) (h : BaseSQ B s12 s14 va vb pe te a) : BaseSQ B s12 s14 va vb pe te (a.put (some 76) v) := by
  obtain ⟨u, rfl⟩ := h
  exact ⟨fun i => if i = 76 then v else u i, by kernel_rfl⟩
theorem BaseSQ.put77 {B s12 s14 : Nat} {va vb : Value} {pe te : Int} (a : Act) (v : Value) (h : BaseSQ B s12 s14 va vb pe te a) : BaseSQ B s12 s14 va vb pe te (a.put (some 77) v) := by
  obtain ⟨u, rfl⟩ := h
  exact ⟨fun i => if i = 77 then v else u i, by kernel_rfl⟩
theorem BaseSQ.put78 {B s12 s14 : Nat} {va vb : Value} {pe te : Int} (a : Act) (v : Value) (h : BaseSQ B s12 s14 va vb pe te a) : BaseSQ B s12 s14 va vb pe te (a.put (some 78) v) := by
  obtain ⟨u, rfl⟩ := h
  exact ⟨fun i => if i = 78 then v else u i, by kernel_rfl⟩
theorem BaseSQ.put79 {B s12 s14 : Nat} {va vb : Value} {pe te : Int} (a : Act) (v : Value) (h : BaseSQ B s12 s14 va vb pe te a) : BaseSQ B s12 s14 va vb pe te (a.put (some 79) v) := by
  obtain ⟨u, rfl⟩ := h
  exact ⟨fun i => if i = 79 then v else u i, by kernel_rfl⟩
theorem BaseSQ.put80 {B s12 s14 : Nat} {va vb : Value} {pe te : Int} (a : Act) (v : Value) (h : BaseSQ B s12 s14 va vb pe te a) : BaseSQ B s12 s14 va vb pe te (a.put (some 80) v) := by
  obtain ⟨u, rfl⟩ := h
  exact ⟨fun i => if i = 80 then v else u i, by kernel_rfl⟩
theorem BaseSQ.put81 {B s12 s14 : Nat} {va vb : Value} {pe te : Int} (a : Act) (v : Value) (h : BaseSQ B s12 s14 va vb pe te a) : BaseSQ B s12 s14 va vb pe te (a.put (some 81) v) := by
  obtain ⟨u, rfl⟩ := h
  exact ⟨fun i => if i = 81 then v else u i, by kernel_rfl⟩
theorem BaseSQ.put82 {B s12 s14 : Nat} {va vb : Value} {pe te : Int} (a : Act) (v : Value) (h : BaseSQ B s12 s14 va vb pe te a) : BaseSQ B s12 s14 va vb pe te (a.put (some 82) v) := by
  obtain ⟨u, rfl⟩ := h
  exact ⟨fun i => if i = 82 then v else u i, by kernel_rfl⟩
theorem BaseSQ.put83 {B s12 s14 : Nat} {va vb : Value} {pe te : Int} (a : Act) (v : Value) (h : BaseSQ B s12 s14 va vb pe te a) : BaseSQ B s12 s14 va vb pe te (a.put (some 83) v) := by
  obtain ⟨u, rfl⟩ := h
  exact ⟨fun i => if i = 83 then v else u i, by kernel_rfl⟩
theorem BaseSQ.put84 {B s12 s14 : Nat} {va vb : Value} {pe te : Int} (a : Act) (v : Value) (h : BaseSQ B s12 s14 va vb pe te a) : BaseSQ B s12 s14 va vb pe te (a.put (some 84) v) := by
  obtain ⟨u, rfl⟩ := h
  exact ⟨fun i => if i = 84 then v else u i, by kernel_rfl⟩
theorem BaseSQ.put85 {B s12 s14 : Nat} {va vb : Value} {pe te : Int} (a : Act) (v : Value) (h : BaseSQ B s12 s14 va vb pe te a) : BaseSQ B s12 s14 va vb pe te (a.put (some 85) v) := by
  obtain ⟨u, rfl⟩ := h
  exact ⟨fun i => if i = 85 then v else u i, by kernel_rfl⟩
theorem BaseSQ.put86 {B s12 s14 : Nat} {va vb : Value} {pe te : Int} (a : Act) (v : Value) (h : BaseSQ B s12 s14 va vb pe te a) : BaseSQ B s12 s14 va vb pe te (a.put (some 86) v) := by
  obtain ⟨u, rfl⟩ := h
  exact ⟨fun i => if i = 86 then v else u i, by kernel_rfl⟩
theorem BaseSQ.put87 {B s12 s14 : Nat} {va vb : Value} {pe te : Int} (a : Act) (v : Value) (h : BaseSQ B s12 s14 va vb pe te a) : BaseSQ B s12 s14 va vb pe te (a.put (some 87) v) := by
  obtain ⟨u, rfl⟩ := h
  exact ⟨fun i => if i = 87 then v else u i, by kernel_rfl⟩
theorem BaseSQ.put88 {B s12 s14 : Nat} {va vb : Value} {pe te : Int} (a : Act) (v : Value) (h : BaseSQ B s12 s14 va vb pe te a) : BaseSQ B s12 s14 va vb pe te (a.put (some 88) v) := by
  obtain ⟨u, rfl⟩ := h
  exact ⟨fun i => if i = 88 then v else u i, by kernel_rfl⟩
theorem BaseSQ.put89 {B s12 s14 : Nat} {va vb : Value} {pe te : Int} (a : Act) (v : Value) (h : BaseSQ B s12 s14 va vb pe te a) : BaseSQ B s12 s14 va vb pe te (a.put (some 89) v) := by
  obtain ⟨u, rfl⟩ := h
  exact ⟨fun i => if i = 89 then v else u i, by kernel_rfl⟩
theorem BaseSQ.put16 {B s12 s14 : Nat} {va vb : Value} {pe te : Int} (a : Act) (v : Value) (h : BaseSQ B s12 s14 va vb pe te a) : BaseSQ B s12 s14 va vb pe te (a.put (some 16) v) := by
  obtain ⟨u, rfl⟩ := h
  exact ⟨fun i => if i = 16 then v else u i, by kernel_rfl⟩

set_option maxHeartbeats 8000000 in
theorem walk_SnapPuts (b l y n s r : Int) (A : Array Value) (x : Sn) (oa : Option Addr) (cap : Nat) (ps : List ByteArray) (hw : (ps.length ≤ cap ∧ cap ≤ maxLen) ∧ ∀ p ∈ ps, p.size ≤ maxLen) (w : World) (hA : SnAt w A x) (hp : TxAt w oa ps) :
    Calls Tryd.prog 3 #[.agg (gv b l y n s r), .agg A, .slice oa ps.length cap] w fun e w' => e = .returned (.bool true) ∧ Below w.heap.size w w' := by
  obtain ⟨w2, hw2⟩ : ∃ w2, (w.alloc (.cells (gv b l y n s r) 23)).alloc (.cells A 26) = w2 := ⟨_, rfl⟩
  have HW2 : Hid (SnW w b l y n s r A w2) := by rw [← hw2]; exact SnW.new _ _ _ _ _ _ _ _
  have HSA : Hid ((Tryd.prog.info? 26).map (·.size) = some A.size) := snAt_size hA
  have HA : Hid (∀ w', Below w.heap.size w w' → SnAt w' A x) := fun w' h => hA.below h
  have htc := TxAt.tsc hp hw.1
  obtain ⟨L, hL⟩ : ∃ L, ps.length = L := ⟨_, rfl⟩
  have HLE := Lib.hid hL
  rw [hL] at htc ⊢
  have HP : Hid (∀ w', Below w.heap.size w w' → TsC w' (.slice oa L cap) ps) := fun w' h => htc.below h
  have HPX : Hid (TxAt w oa ps) := hp
  clear hA hp hw hL htc
  have c3 : w2.cell? ⟨w.heap.size, 3, none⟩ = some (.int .i64 n) := HW2.out.geo.2.2
  go_enter Tryd.func3, Tryd.ntmps3
  by_cases hn : 300 < n
  · have hnb : decide (300 < n) = true := decide_eq_true hn
    go_wp2_with fail
    refine (sn_works _).mono ?_
    rintro e w3 ⟨rfl, hb3⟩
    have HW3 : Hid (SnW w b l y n s r A w3) := by first | exact HW2.out.call hb3 | (rw [hw2] at hb3; exact HW2.out.call hb3)
    clear hb3
    go_wp2_with fail
    go_ret
    exact ⟨rfl, HW3.out.2⟩
  have hnb : decide (300 < n) = false := decide_eq_false hn
  by_cases hl : (100 : Int) < (L : Int)
  · have hlb : decide ((100 : Int) < (L : Int)) = true := decide_eq_true hl
    go_wp2_with fail
    refine (sn_works _).mono ?_
    rintro e w3 ⟨rfl, hb3⟩
    have HW3 : Hid (SnW w b l y n s r A w3) := by first | exact HW2.out.call hb3 | (rw [hw2] at hb3; exact HW2.out.call hb3)
    clear hb3
    go_wp2_with fail
    go_ret
    exact ⟨rfl, HW3.out.2⟩
  have hlb : decide ((100 : Int) < (L : Int)) = false := decide_eq_false hl
  have HL : Hid (ps.length ≤ 1000000 ∧ L ≤ 100) := by show ps.length ≤ _ ∧ _; rw [HLE.out]; omega
  have HTN : Hid (∀ ps, (tkX b l y n s r ps).f.length ≤ 1000000) := fun ps => tk_len ps hn
  go_wp2_with fail
  clear c3 hn hnb hl hlb hw2
  go_loopw [7] (fun iv wr => ∃ i : Nat, i ≤ L ∧ iv = .int .i64 i ∧ Hid (SnW w b l y n s r A wr)) (fun iv _ => L + 1 - (intOf iv).toNat)
  case atStart => exact ⟨0, Nat.zero_le _, rfl, HW2.out⟩
  case round =>
    obtain ⟨i, hi, rfl, HWR⟩ := hrel
    by_cases hlt : i < L
    · have hltz : (i : Int) < (L : Int) := by omega
      have i0 : (0 : Int) ≤ (i : Int) := by omega
      have hil : i < ps.length := by have := HLE.out; omega
      obtain ⟨g, o, rfl, _, hcl⟩ := HPX.out (by intro h0; rw [h0] at hil; exact absurd hil (Nat.not_lt_zero _))
      have r1 := hcl i hil
      have c1 := (HWR.out.2.cell (p := ⟨g, o + i, none⟩) (cell_lt r1)).trans r1
      obtain ⟨p, hp⟩ : ∃ p, ps[i] = p := ⟨_, rfl⟩
      rw [hp] at c1
      have HL2 := HL.out.2
      clear hcl r1 hp hil
      by_cases hz : (300 : Int) < (p.size : Int)
      · have hzb : decide ((300 : Int) < (p.size : Int)) = true := decide_eq_true hz
        go_wp2_with fail
        refine (sn_works _).mono ?_
        rintro e w3 ⟨rfl, hb3⟩
        have HW3 : Hid (SnW w b l y n s r A w3) := HWR.out.call hb3
        clear hb3 c1
        go_wp2_with fail
        go_ret
        exact ⟨rfl, HW3.out.2⟩
      · have hzb : decide ((300 : Int) < (p.size : Int)) = false := decide_eq_false hz
        go_wp2_with fail
        refine ⟨⟨i + 1, by omega, by go_num, HWR⟩, ?_⟩
        simp [intOf]; omega
    · obtain rfl : i = L := by omega
      have hltz : ¬ (i : Int) < (i : Int) := by omega
      clear hlt HW2 HPX
      go_wp2_with (first
        | (refine wpList_load_row rfl 23 (.tmp 3) rfl w.heap.size rfl 23 (gv b l y n s r) (0, 0) _ HWR.out.1.2.1 Tryd.underlying23 rfl size_geo ?_)
        | (refine wpList_load_row rfl 26 (.tmp 4) rfl (w.heap.size + 1) rfl 26 A (0, 0) _ HWR.out.1.2.2 Tryd.underlying26 rfl HSA.out ?_))
      refine (sn_putC wr b l y n s r A x (HA.out _ HWR.out.2)).mono ?_
      rintro e w4 ⟨⟨va, rfl, hva⟩, hb4⟩
      have HW4 := Lib.hid (HWR.out.call hb4)
      have HOA : Hid (w4.ownsRow w.heap.size 9 1 va (ptP b l y n s r x).length (strV (ptP b l y n s r x))) := ownsRow_monoS hva HWR.out.2.size
      clear hva hb4 HWR hltz hi
      obtain ⟨pe, hpe⟩ : ∃ pe, ptE b l y n s r x = pe := ⟨_, rfl⟩
      have HPE := Lib.hid hpe
      rw [hpe]
      clear hpe
      go_wp2_with (first
        | (refine wpList_load_row rfl 23 (.tmp 3) rfl w.heap.size rfl 23 (gv b l y n s r) (0, 0) _ HW4.out.1.2.1 Tryd.underlying23 rfl size_geo ?_)
        | (refine wpList_load_row rfl 26 (.tmp 4) rfl (w.heap.size + 1) rfl 26 A (0, 0) _ HW4.out.1.2.2 Tryd.underlying26 rfl HSA.out ?_))
      refine (rsn_putC w4 b l y n s r A x (HA.out _ HW4.out.2)).mono ?_
      rintro e w5 ⟨⟨vb, rfl, hvb⟩, hb5⟩
      rw [HPE.out]
      have HW5 := Lib.hid (HW4.out.call hb5)
      have HOA5 := Lib.hid (ownsRow_afterX HOA.out hb5)
      have HTB5 : Hid (TsC w5 vb (ptP b l y n s r x)) := TsC.own rfl hvb
      clear hvb hb5 HW4 HOA HPE
      go_wp2_with (first
        | (refine wpList_load_row rfl 23 (.tmp 3) rfl w.heap.size rfl 23 (gv b l y n s r) (0, 0) _ HW5.out.1.2.1 Tryd.underlying23 rfl size_geo ?_))
      refine (sn_take w5 b l y n s r (.slice oa i cap) ps (HP.out _ HW5.out.2)).mono ?_
      rintro e w6 ⟨⟨ca, cb, cc, cd, rfl, hf⟩, hb6⟩
      have HF6 : Hid (FourR w6 w.heap.size [ca, cb, cc, cd] (listsN (tkX b l y n s r ps))) := hf.mono HW5.out.2.size
      have HW6 := Lib.hid (HW5.out.call hb6)
      have HOA6 := Lib.hid (ownsRow_afterX HOA5.out hb6)
      have HTB6 := Lib.hid (HTB5.out.below hb6)
      clear hf hb6 HW5 HOA5 HTB5
      obtain ⟨te, hte⟩ : ∃ te, tkE b l y n s r ps = te := ⟨_, rfl⟩
      have HTE := Lib.hid hte
      rw [hte]
      clear hte
      go_upto_region 11 with (first
        | (refine wpList_store_row rfl 26 (.tmp 12) (.tmp 55) rfl w6.heap.size #[ca, cb, cc, cd] rfl rfl 26 nil4 (Blk.new w6 nil4 26) size_state rfl HF6.out.one ?_))
      have HS7 : Hid (Blk ((w6.alloc (.cells #[.slice none 0 0, .slice none 0 0, .slice none 0 0, .slice none 0 0] 26)).setRow w6.heap.size #[ca, cb, cc, cd]) w6.heap.size #[ca, cb, cc, cd] 26) := (Blk.new w6 nil4 26).put _
      have hbl : Below w6.heap.size w6 ((w6.alloc (.cells #[.slice none 0 0, .slice none 0 0, .slice none 0 0, .slice none 0 0] 26)).setRow w6.heap.size #[ca, cb, cc, cd]) := below_put (Nat.le_refl _) _ ((Below.refl _ _).alloc (Nat.le_refl _) _)
      have HW7 := Lib.hid (HW6.out.call hbl)
      have HF7 := Lib.hid (HF6.out.after hbl)
      have HOA7 := Lib.hid (ownsRow_afterX HOA6.out hbl)
      have HTB7 := Lib.hid (HTB6.out.below hbl)
      clear hbl
      obtain ⟨s12, hs12⟩ : ∃ s12, w6.heap.size = s12 := ⟨_, rfl⟩
      have HS12 : Hid (w.heap.size ≤ s12) := by show _ ≤ s12; rw [← hs12]; exact HW6.out.2.size
      generalize (w6.alloc (.cells #[.slice none 0 0, .slice none 0 0, .slice none 0 0, .slice none 0 0] 26)).setRow w6.heap.size #[ca, cb, cc, cd] = w7 at HS7 HW7 HF7 HOA7 HTB7 ⊢
      rw [hs12] at HS7 ⊢
      clear hs12 HF6 HW6 HOA6 HTB6
      go_wp2_with (first
        | (refine wpList_load_row rfl 23 (.tmp 3) rfl w.heap.size rfl 23 (gv b l y n s r) (0, 0) _ HW7.out.1.2.1 Tryd.underlying23 rfl size_geo ?_))
      refine (rsn_takeC w7 b l y n s r (.slice oa i cap) ps HL.out.1 (HP.out _ HW7.out.2).ts).mono ?_
      rintro e w8 ⟨⟨Ad, rfl, had⟩, hb8⟩
      rw [HTE.out]
      have HD8 := Lib.hid had
      have HW8 := Lib.hid (HW7.out.call hb8)
      have HF8 := Lib.hid (HF7.out.after hb8)
      have HOA8 := Lib.hid (ownsRow_afterX HOA7.out hb8)
      have HTB8 := Lib.hid (HTB7.out.below hb8)
      have HS8 := Lib.hid (HS7.out.after hb8)
      clear had hb8 HW7 HF7 HOA7 HTB7 HS7 HTE
      go_upto_region 12 with (first
        | (refine wpList_store_row rfl 26 (.tmp 14) (.tmp 61) rfl w8.heap.size Ad rfl rfl 26 nil4 (Blk.new w8 nil4 26) (snAt_size HD8.out) (snAt_four HD8.out) (snAt_one HD8.out) ?_))
      have HSD9 : Hid (Blk ((w8.alloc (.cells #[.slice none 0 0, .slice none 0 0, .slice none 0 0, .slice none 0 0] 26)).setRow w8.heap.size Ad) w8.heap.size Ad 26) := (Blk.new w8 nil4 26).put _
      have hbl : Below w8.heap.size w8 ((w8.alloc (.cells #[.slice none 0 0, .slice none 0 0, .slice none 0 0, .slice none 0 0] 26)).setRow w8.heap.size Ad) := below_put (Nat.le_refl _) _ ((Below.refl _ _).alloc (Nat.le_refl _) _)
      have HW12 := Lib.hid (HW8.out.call hbl)
      have HF12 := Lib.hid (HF8.out.after hbl)
      have HOA12 := Lib.hid (ownsRow_afterX HOA8.out hbl)
      have HTB12 := Lib.hid (HTB8.out.below hbl)
      have HS12B := Lib.hid (HS8.out.after hbl)
      have HD12 := Lib.hid (HD8.out.below hbl)
      clear hbl
      obtain ⟨s14, hs14⟩ : ∃ s14, w8.heap.size = s14 := ⟨_, rfl⟩
      generalize (w8.alloc (.cells #[.slice none 0 0, .slice none 0 0, .slice none 0 0, .slice none 0 0] 26)).setRow w8.heap.size Ad = w12 at HSD9 HW12 HF12 HOA12 HTB12 HS12B HD12 ⊢
      rw [hs14] at HSD9 ⊢
      clear hs14 HF8 HW8 HOA8 HTB8 HS8
      obtain ⟨q, hq⟩ : ∃ q, fitsB b l y n s r x = q := ⟨_, rfl⟩
      have hlow : ∀ w', Below w12.heap.size w12 w' → Below w.heap.size w w' := fun w' h => HW12.out.2.trans (h.mono HW12.out.2.size)
      have HFI : Hid (∀ w', Below w12.heap.size w12 w' → Calls Tryd.prog 11 #[.agg (gv b l y n s r), .agg A] w' fun e w2 => e = .returned (.bool q) ∧ Below w'.heap.size w' w2) := fun w' h => by rw [← hq]; exact sn_fits w' b l y n s r A x (HA.out _ (hlow w' h))
      have HFR : Hid (∀ w', Below w12.heap.size w12 w' → Calls Tryd.prog 12 #[.agg (gv b l y n s r), .agg A] w' fun e w2 => e = .returned (.bool q) ∧ Below w'.heap.size w' w2) := fun w' h => by rw [← hq]; exact rsn_fits w' b l y n s r A x (HA.out _ (hlow w' h))
      have HST : Hid (∀ w', Below w12.heap.size w12 w' → Calls Tryd.prog 13 #[va, vb] w' fun e w2 => e = .returned (.bool true) ∧ Below w'.heap.size w' w2) := fun w' h => by
        have h2 := book_textsG w' va vb _ _ ⟨ptP_len (b := b) (l := l) (y := y) (n := n) (s := s) (r := r) x, ptP_len (b := b) (l := l) (y := y) (n := n) (s := s) (r := r) x⟩ (TsC.own rfl (ownsRow_afterX HOA12.out h)).ts (HTB12.out.below h).ts
        rw [decide_eq_true rfl] at h2
        exact h2
      have HSS : Hid (∀ w', Below w12.heap.size w12 w' → Calls Tryd.prog 14 #[.agg #[ca, cb, cc, cd], .agg Ad] w' fun e w2 => e = .returned (.bool true) ∧ Below w'.heap.size w' w2) := fun w' h => by
        have h2 := book_state w' #[ca, cb, cc, cd] Ad _ _ (FourR.snat (HF12.out.after h)) (HD12.out.below h)
        rw [decide_eq_true rfl] at h2
        exact h2
      have HGB : Hid (∀ w', Below w12.heap.size w12 w' → Blk w' w.heap.size (gv b l y n s r) 23) := fun w' h => HW12.out.1.2.1.after h
      have HAB : Hid (∀ w', Below w12.heap.size w12 w' → Blk w' (w.heap.size + 1) A 26) := fun w' h => HW12.out.1.2.2.after h
      have HCB : Hid (∀ w', Below w12.heap.size w12 w' → Blk w' s12 #[ca, cb, cc, cd] 26) := fun w' h => HS12B.out.after h
      have HDB : Hid (∀ w', Below w12.heap.size w12 w' → Blk w' s14 Ad 26) := fun w' h => HSD9.out.after h
      have HSC : Hid ((Tryd.prog.info? 26).map (·.size) = some (#[ca, cb, cc, cd] : Array Value).size) := size_state
      have HSD : Hid ((Tryd.prog.info? 26).map (·.size) = some Ad.size) := snAt_size HD12.out
      have HLOW := Lib.hid hlow
      clear hq hlow HD12 HTB12 HSD9 HD8
      rename_i K0 hK0
      refine wp_region_list3 (SV (vsSQ b l y n s r A #[ca, cb, cc, cd] Ad va vb pe te q) []) (BaseSQ w.heap.size s12 s14 va vb pe te) (fun w' => Below w12.heap.size w12 w') (Goes) (RV (vsSQ b l y n s r A #[ca, cb, cc, cd] Ad va vb pe te q) (fun _ _ _ => False)) rfl (by kernel_rfl) (RV.ext (no_specialL _)) ?_ ((Below.refl _ _).drew) (BaseSQ.of _ (by kernel_rfl)) ?_ ?_
      · exact ⟨BaseSQ.put63, BaseSQ.put64, BaseSQ.put65, BaseSQ.put66, BaseSQ.put67, BaseSQ.put68, BaseSQ.put69, BaseSQ.put70, BaseSQ.put71, BaseSQ.put72, BaseSQ.put73, BaseSQ.put74, BaseSQ.put75, BaseSQ.put76, BaseSQ.put77, BaseSQ.put78, BaseSQ.put79, BaseSQ.put80, BaseSQ.put81, BaseSQ.put82, BaseSQ.put83, BaseSQ.put84, BaseSQ.put85, BaseSQ.put86, BaseSQ.put87, BaseSQ.put88, BaseSQ.put89, BaseSQ.put16, trivial⟩
      · refine ⟨?_, ?_, ?_, ?_, ?_, ?_, ?_, ?_, ?_, ?_, ?_, ?_, ?_, ?_, ?_, ?_, ?_, ?_, ?_, ?_, ?_, ?_, ?_, ?_, ?_, ?_, ?_, ?_, trivial⟩
        all_goals
          intro a w' hC hB hR
          obtain ⟨u, rfl⟩ := hB
          have HC := Lib.hid hC
          clear hC
          clear hK0
        · clear hR
          refine if_yes (by kernel_rfl) ?_
          exact wp_load_row 23 (.tmp 3) rfl w.heap.size rfl 23 (gv b l y n s r) (0, 0) _ (HGB.out _ HC.out) Tryd.underlying23 rfl size_geo ⟨.agg (gv b l y n s r), rfl, HC.out, Below.refl _ _, rfl⟩
        · clear hR
          refine if_yes (by kernel_rfl) ?_
          exact wp_load_row 26 (.tmp 4) rfl (w.heap.size + 1) rfl 26 A (0, 0) _ (HAB.out _ HC.out) Tryd.underlying26 rfl HSA.out ⟨.agg A, rfl, HC.out, Below.refl _ _, rfl⟩
        · have h63 : u 63 = .agg (gv b l y n s r) := hR ⟨0, .data⟩ (by simp) rfl
          have h64 : u 64 = .agg A := hR ⟨1, .data⟩ (by simp) rfl
          clear hR
          simp only [h63, h64]
          clear h63 h64
          refine if_yes (by kernel_rfl) ?_
          unfold Oper.wp
          go_simp
          refine (HFI.out w' HC.out).mono ?_
          rintro e w2 ⟨rfl, hb2⟩
          exact ⟨.bool q, rfl, HC.out.trans (hb2.mono HC.out.size), hb2, rfl⟩
        · clear hR
          refine if_yes (by kernel_rfl) ?_
          exact wp_load_row 23 (.tmp 3) rfl w.heap.size rfl 23 (gv b l y n s r) (0, 0) _ (HGB.out _ HC.out) Tryd.underlying23 rfl size_geo ⟨.agg (gv b l y n s r), rfl, HC.out, Below.refl _ _, rfl⟩
        · clear hR
          refine if_yes (by kernel_rfl) ?_
          exact wp_load_row 26 (.tmp 4) rfl (w.heap.size + 1) rfl 26 A (0, 0) _ (HAB.out _ HC.out) Tryd.underlying26 rfl HSA.out ⟨.agg A, rfl, HC.out, Below.refl _ _, rfl⟩
        · have h66 : u 66 = .agg (gv b l y n s r) := hR ⟨3, .data⟩ (by simp) rfl
          have h67 : u 67 = .agg A := hR ⟨4, .data⟩ (by simp) rfl
          clear hR
          simp only [h66, h67]
          clear h66 h67
          refine if_yes (by kernel_rfl) ?_
          unfold Oper.wp
          go_simp
          refine (HFR.out w' HC.out).mono ?_
          rintro e w2 ⟨rfl, hb2⟩
          exact ⟨.bool q, rfl, HC.out.trans (hb2.mono HC.out.size), hb2, rfl⟩
        · have h65 : u 65 = .bool q := hR ⟨2, .data⟩ (by simp) rfl
          have h68 : u 68 = .bool q := hR ⟨5, .data⟩ (by simp) rfl
          have hqq : (q == q) = true := by cases q <;> rfl
          clear hR
          simp only [h65, h68]
          clear h65 h68
          refine if_yes (by kernel_rfl) ?_
          unfold Oper.wp
          go_simp
          exact ⟨.bool true, rfl, HC.out, Below.refl _ _, rfl⟩
        · have h69 : u 69 = .bool true := hR ⟨6, .data⟩ (by simp) rfl
          clear hR
          simp only [h69]
          clear h69
          refine if_yes (by kernel_rfl) ?_
          unfold Oper.wp
          go_simp
          exact ⟨.bool true, rfl, HC.out, Below.refl _ _, rfl⟩
        · have g70 : u 70 = .bool true := hR ⟨7, .guard⟩ (by simp) rfl
          clear hR
          simp only [g70]
          clear g70
          refine if_yes (by kernel_rfl) ?_
          unfold Oper.wp
          go_simp
          exact ⟨va, rfl, HC.out, Below.refl _ _, rfl⟩
        · have g70 : u 70 = .bool true := hR ⟨7, .guard⟩ (by simp) rfl
          clear hR
          simp only [g70]
          clear g70
          refine if_yes (by kernel_rfl) ?_
          unfold Oper.wp
          go_simp
          exact ⟨vb, rfl, HC.out, Below.refl _ _, rfl⟩
        · have g70 : u 70 = .bool true := hR ⟨7, .guard⟩ (by simp) rfl
          have h71 : u 71 = va := hR ⟨8, .data⟩ (by simp) rfl
          have h72 : u 72 = vb := hR ⟨9, .data⟩ (by simp) rfl
          clear hR
          simp only [g70, h71, h72]
          clear g70 h71 h72
          refine if_yes (by kernel_rfl) ?_
          unfold Oper.wp
          go_simp
          refine (HST.out w' HC.out).mono ?_
          rintro e w2 ⟨rfl, hb2⟩
          exact ⟨.bool true, rfl, HC.out.trans (hb2.mono HC.out.size), hb2, rfl⟩
        · have h70 : u 70 = .bool true := hR ⟨7, .data⟩ (by simp) rfl
          have h73 : u 73 = .bool true := hR ⟨10, .data⟩ (by simp) rfl
          clear hR
          simp only [h70, h73]
          clear h70 h73
          refine if_yes (by kernel_rfl) ?_
          unfold Oper.wp
          go_simp
          exact ⟨.bool true, rfl, HC.out, Below.refl _ _, rfl⟩
        · have h74 : u 74 = .bool true := hR ⟨11, .data⟩ (by simp) rfl
          clear hR
          simp only [h74]
          clear h74
          refine if_yes (by kernel_rfl) ?_
          unfold Oper.wp
          go_simp
          exact ⟨.bool true, rfl, HC.out, Below.refl _ _, rfl⟩
        · have g75 : u 75 = .bool true := hR ⟨12, .guard⟩ (by simp) rfl
          clear hR
          simp only [g75]
          clear g75
          refine if_yes (by kernel_rfl) ?_
          unfold Oper.wp
          go_simp
          exact ⟨.int .i64 pe, rfl, HC.out, Below.refl _ _, rfl⟩
        · have g75 : u 75 = .bool true := hR ⟨12, .guard⟩ (by simp) rfl
          clear hR
          simp only [g75]
          clear g75
          refine if_yes (by kernel_rfl) ?_
          unfold Oper.wp
          go_simp
          exact ⟨.int .i64 pe, rfl, HC.out, Below.refl _ _, rfl⟩
        · have g75 : u 75 = .bool true := hR ⟨12, .guard⟩ (by simp) rfl
          have h76 : u 76 = .int .i64 pe := hR ⟨13, .data⟩ (by simp) rfl
          have h77 : u 77 = .int .i64 pe := hR ⟨14, .data⟩ (by simp) rfl
          have hpp : (pe == pe) = true := by simp
          clear hR
          simp only [g75, h76, h77]
          clear g75 h76 h77
          refine if_yes (by kernel_rfl) ?_
          unfold Oper.wp
          go_simp
          exact ⟨.bool true, rfl, HC.out, Below.refl _ _, rfl⟩
        · have h75 : u 75 = .bool true := hR ⟨12, .data⟩ (by simp) rfl
          have h78 : u 78 = .bool true := hR ⟨15, .data⟩ (by simp) rfl
          clear hR
          simp only [h75, h78]
          clear h75 h78
          refine if_yes (by kernel_rfl) ?_
          unfold Oper.wp
          go_simp
          exact ⟨.bool true, rfl, HC.out, Below.refl _ _, rfl⟩
        · have h79 : u 79 = .bool true := hR ⟨16, .data⟩ (by simp) rfl
          clear hR
          simp only [h79]
          clear h79
          refine if_yes (by kernel_rfl) ?_
          unfold Oper.wp
          go_simp
          exact ⟨.bool true, rfl, HC.out, Below.refl _ _, rfl⟩
        · have g80 : u 80 = .bool true := hR ⟨17, .guard⟩ (by simp) rfl
          clear hR
          simp only [g80]
          clear g80
          refine if_yes (by kernel_rfl) ?_
          exact wp_load_row 26 (.tmp 12) rfl s12 rfl 26 #[ca, cb, cc, cd] (0, 0) _ (HCB.out _ HC.out) Tryd.underlying26 rfl HSC.out ⟨.agg #[ca, cb, cc, cd], rfl, HC.out, Below.refl _ _, rfl⟩
        · have g80 : u 80 = .bool true := hR ⟨17, .guard⟩ (by simp) rfl
          clear hR
          simp only [g80]
          clear g80
          refine if_yes (by kernel_rfl) ?_
          exact wp_load_row 26 (.tmp 14) rfl s14 rfl 26 Ad (0, 0) _ (HDB.out _ HC.out) Tryd.underlying26 rfl HSD.out ⟨.agg Ad, rfl, HC.out, Below.refl _ _, rfl⟩
        · have g80 : u 80 = .bool true := hR ⟨17, .guard⟩ (by simp) rfl
          have h81 : u 81 = .agg #[ca, cb, cc, cd] := hR ⟨18, .data⟩ (by simp) rfl
          have h82 : u 82 = .agg Ad := hR ⟨19, .data⟩ (by simp) rfl
          clear hR
          simp only [g80, h81, h82]
          clear g80 h81 h82
          refine if_yes (by kernel_rfl) ?_
          unfold Oper.wp
          go_simp
          refine (HSS.out w' HC.out).mono ?_
          rintro e w2 ⟨rfl, hb2⟩
          exact ⟨.bool true, rfl, HC.out.trans (hb2.mono HC.out.size), hb2, rfl⟩
        · have h80 : u 80 = .bool true := hR ⟨17, .data⟩ (by simp) rfl
          have h83 : u 83 = .bool true := hR ⟨20, .data⟩ (by simp) rfl
          clear hR
          simp only [h80, h83]
          clear h80 h83
          refine if_yes (by kernel_rfl) ?_
          unfold Oper.wp
          go_simp
          exact ⟨.bool true, rfl, HC.out, Below.refl _ _, rfl⟩
        · have h84 : u 84 = .bool true := hR ⟨21, .data⟩ (by simp) rfl
          clear hR
          simp only [h84]
          clear h84
          refine if_yes (by kernel_rfl) ?_
          unfold Oper.wp
          go_simp
          exact ⟨.bool true, rfl, HC.out, Below.refl _ _, rfl⟩
        · have g85 : u 85 = .bool true := hR ⟨22, .guard⟩ (by simp) rfl
          clear hR
          simp only [g85]
          clear g85
          refine if_yes (by kernel_rfl) ?_
          unfold Oper.wp
          go_simp
          exact ⟨.int .i64 te, rfl, HC.out, Below.refl _ _, rfl⟩
        · have g85 : u 85 = .bool true := hR ⟨22, .guard⟩ (by simp) rfl
          clear hR
          simp only [g85]
          clear g85
          refine if_yes (by kernel_rfl) ?_
          unfold Oper.wp
          go_simp
          exact ⟨.int .i64 te, rfl, HC.out, Below.refl _ _, rfl⟩
        · have g85 : u 85 = .bool true := hR ⟨22, .guard⟩ (by simp) rfl
          have h86 : u 86 = .int .i64 te := hR ⟨23, .data⟩ (by simp) rfl
          have h87 : u 87 = .int .i64 te := hR ⟨24, .data⟩ (by simp) rfl
          have htt : (te == te) = true := by simp
          clear hR
          simp only [g85, h86, h87]
          clear g85 h86 h87
          refine if_yes (by kernel_rfl) ?_
          unfold Oper.wp
          go_simp
          exact ⟨.bool true, rfl, HC.out, Below.refl _ _, rfl⟩
        · have h85 : u 85 = .bool true := hR ⟨22, .data⟩ (by simp) rfl
          have h88 : u 88 = .bool true := hR ⟨25, .data⟩ (by simp) rfl
          clear hR
          simp only [h85, h88]
          clear h85 h88
          refine if_yes (by kernel_rfl) ?_
          unfold Oper.wp
          go_simp
          exact ⟨.bool true, rfl, HC.out, Below.refl _ _, rfl⟩
        · have h89 : u 89 = .bool true := hR ⟨26, .data⟩ (by simp) rfl
          clear hR
          simp only [h89]
          clear h89
          refine if_yes (by kernel_rfl) ?_
          unfold Oper.wp
          go_simp
          exact ⟨.bool true, rfl, HC.out, Below.refl _ _, rfl⟩
      · intro a w13 hC hB hR
        have h16 : a.tmps.getD 16 undef = .bool true := hR 27 (by decide)
        clear hR
        obtain ⟨u, rfl⟩ := hB
        have h16 : u 16 = .bool true := h16
        simp only [h16]
        have HC := Lib.hid hC
        have HOA13 := Lib.hid (ownsRow_afterX HOA12.out hC)
        have HF13 := Lib.hid (HF12.out.after hC)
        have HS13 := Lib.hid (HCB.out _ hC)
        have HB13 := Lib.hid (HLOW.out _ hC)
        clear h16 hC HFI HFR HST HSS HGB HAB HCB HDB HSC HSD HLOW HOA12 HF12 HS12B
        go_wp2_with fail
        refine (spoil_texts w13 w.heap.size _ va _ (ptP_len x) HOA13.out).mono ?_
        rintro e w14 ⟨rfl, hg14⟩
        have HB14 : Hid (Below w.heap.size w w14) := HB13.out.trans (grown_below HOA13.out HB13.out.size hg14)
        have HS14 : Hid (Blk w14 s12 #[ca, cb, cc, cd] 26) := blk_spoil HOA13.out hg14 HS13.out (by decide)
        have HO14 : Hid (w14.ownsRow w.heap.size 3 1 ca (tkX b l y n s r ps).f.length (intV (tkX b l y n s r ps).f)) := own_spoil (HF13.out.1 0 (by decide)) HOA13.out hg14 (by decide)
        have c14 : w14.cell? ⟨s12, 0, none⟩ = some ca := HS14.out.cell 0
        clear hg14 HOA13 HF13 HS13 HB13
        go_wp2_with fail
        refine (spoil_ints w14 w.heap.size _ ca _ (HTN.out ps) HO14.out).mono ?_
        rintro e w15 ⟨rfl, hg15⟩
        have HB15 : Hid (Below w.heap.size w w15) := HB14.out.trans (grown_below HO14.out HB14.out.size hg15)
        clear hg15 c14
        go_wp2_with fail
        refine (sn_works _).mono ?_
        rintro e w16 ⟨rfl, hb16⟩
        have HB16 : Hid (Below w.heap.size w w16) := HB15.out.trans (hb16.mono HB15.out.size)
        clear hb16
        go_wp2_with fail
        go_ret
        exact ⟨rfl, HB16.out⟩

end Go.Proofs.YtidakannaephoaaDoor
