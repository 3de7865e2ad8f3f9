/- Texts of one claim, merged: SnR2, SnM2, SnR3, GeC0. -/
import Derived.Test.YtidakannaephoaaDoorS3
import Derived.Test.YtidakannaephoaaDoorS2

/- The reference's Fits. -/
namespace Go.Proofs.YtidakannaephoaaDoor
set_option maxRecDepth 100000
open Go.RowKit

theorem chk_eq0 (b l y n s r : Int) : (chkG b l y n s r = 0 ∧ OkG b l y n s r) ∨ (chkG b l y n s r = 60 ∧ ¬ OkG b l y n s r) := by
  by_cases h : OkG b l y n s r
  · exact Or.inl ⟨chk_ok h, h⟩
  · exact Or.inr ⟨chk_no h, h⟩
/-- may the geometry be, and does what is durable fit it? -/
def fitsB (b l y n s r : Int) (x : Sn) : Bool := decide (OkG b l y n s r ∧ FitS b n x)
theorem fitsB_no {b l y n s r : Int} {x : Sn} (h : ¬ OkG b l y n s r) : fitsB b l y n s r x = false := decide_eq_false fun hh => h hh.1
theorem fitsB_ok {b l y n s r : Int} {x : Sn} (h : OkG b l y n s r) : fitsB b l y n s r x = (inB x.f n 281474976710655 && (inB x.c b 4294967295 && (inB x.s b 16777215 && inB x.t b 16777215))) := by
  unfold fitsB inB FitS
  rw [Bool.eq_iff_iff]
  simp [h]

/-- the two blocks that a call of Fits or Put lays, and what is below -/
def SnW (w0 : World) (b l y n s r : Int) (A : Array Value) (w : World) : Prop :=
  (w0.heap.size + 2 ≤ w.heap.size ∧ Blk w w0.heap.size (gv b l y n s r) 23 ∧ Blk w (w0.heap.size + 1) A 26) ∧ Below w0.heap.size w0 w
theorem SnW.new (w0 : World) (b l y n s r : Int) (A : Array Value) : SnW w0 b l y n s r A ((w0.alloc (.cells (gv b l y n s r) 23)).alloc (.cells A 26)) := by
  refine ⟨⟨?_, (Blk.new _ _ _).alloc _, ?_⟩, ((Below.refl _ _).alloc (Nat.le_refl _) _).alloc (by simp) _⟩
  · simp
  · have h := Blk.new (w0.alloc (.cells (gv b l y n s r) 23)) A 26
    rwa [World.size_alloc] at h
theorem SnW.call {w0 w w' : World} {b l y n s r : Int} {A : Array Value} (h : SnW w0 b l y n s r A w) (hb : Below w.heap.size w w') : SnW w0 b l y n s r A w' :=
  ⟨⟨Nat.le_trans h.1.1 hb.size, h.1.2.1.after hb, h.1.2.2.after hb⟩, h.2.trans (hb.mono h.2.size)⟩
theorem SnW.geo {w0 w : World} {b l y n s r : Int} {A : Array Value} (h : SnW w0 b l y n s r A w) :
    w.cell? ⟨w0.heap.size, 0, none⟩ = some (.int .i64 b) ∧ w.cell? ⟨w0.heap.size, 2, none⟩ = some (.int .i64 y) ∧ w.cell? ⟨w0.heap.size, 3, none⟩ = some (.int .i64 n) :=
  ⟨h.1.2.1.cell 0, h.1.2.1.cell 2, h.1.2.1.cell 3⟩
theorem SnW.four {w0 w : World} {b l y n s r : Int} {vf vc vs vt : Value} (h : SnW w0 b l y n s r #[vf, vc, vs, vt] w) :
    w.cell? ⟨w0.heap.size + 1, 0, none⟩ = some vf ∧ w.cell? ⟨w0.heap.size + 1, 1, none⟩ = some vc ∧ w.cell? ⟨w0.heap.size + 1, 2, none⟩ = some vs ∧ w.cell? ⟨w0.heap.size + 1, 3, none⟩ = some vt :=
  ⟨h.1.2.2.cell 0, h.1.2.2.cell 1, h.1.2.2.cell 2, h.1.2.2.cell 3⟩

set_option maxHeartbeats 1000000 in
theorem rsn_fits (w : World) (b l y n s r : Int) (A : Array Value) (x : Sn) (hA : SnAt w A x) :
    Calls Tryd.prog 12 #[.agg (gv b l y n s r), .agg A] w fun e w' => e = .returned (.bool (fitsB b l y n s r x)) ∧ Below w.heap.size w w' := by
  obtain ⟨w2, hw2⟩ : ∃ w2, (w.alloc (.cells (gv b l y n s r) 23)).alloc (.cells A 26) = w2 := ⟨_, rfl⟩
  have hsw : SnW w b l y n s r A w2 := by rw [← hw2]; exact SnW.new _ _ _ _ _ _ _ _
  obtain ⟨vf, vc, vs, vt, rfl, h1, h2, h3, h4⟩ := hA
  have HSW := Lib.hid hsw
  have HW2 := Lib.hid hw2
  rcases chk_eq0 b l y n s r with ⟨hck, hok⟩ | ⟨hck, hok⟩
  · rw [fitsB_ok hok]
    obtain ⟨hb, hn⟩ : (-9223372036854775808 ≤ b ∧ b ≤ 9223372036854775807) ∧ (-9223372036854775808 ≤ n ∧ n ≤ 9223372036854775807) := by
      have h := hok.1; unfold PreG at h; omega
    have H1 : Hid (∀ w3, Below w2.heap.size w2 w3 → Calls Tryd.prog 27 #[vf, .int .i64 n, .int .i64 281474976710655] w3 fun e w' => e = .returned (.bool (inB x.f n 281474976710655)) ∧ Below w3.heap.size w3 w') := fun w3 hb3 => rsn_within w3 vf x.f n _ hn ((h1.below hsw.2).below hb3)
    have H2 : Hid (∀ w3, Below w2.heap.size w2 w3 → Calls Tryd.prog 27 #[vc, .int .i64 b, .int .i64 4294967295] w3 fun e w' => e = .returned (.bool (inB x.c b 4294967295)) ∧ Below w3.heap.size w3 w') := fun w3 hb3 => rsn_within w3 vc x.c b _ hb ((h2.below hsw.2).below hb3)
    have H3 : Hid (∀ w3, Below w2.heap.size w2 w3 → Calls Tryd.prog 27 #[vs, .int .i64 b, .int .i64 16777215] w3 fun e w' => e = .returned (.bool (inB x.s b 16777215)) ∧ Below w3.heap.size w3 w') := fun w3 hb3 => rsn_within w3 vs x.s b _ hb ((h3.below hsw.2).below hb3)
    have H4 : Hid (∀ w3, Below w2.heap.size w2 w3 → Calls Tryd.prog 27 #[vt, .int .i64 b, .int .i64 16777215] w3 fun e w' => e = .returned (.bool (inB x.t b 16777215)) ∧ Below w3.heap.size w3 w') := fun w3 hb3 => rsn_within w3 vt x.t b _ hb ((h4.below hsw.2).below hb3)
    obtain ⟨q1, hq1⟩ : ∃ q, inB x.f n 281474976710655 = q := ⟨_, rfl⟩
    obtain ⟨q2, hq2⟩ : ∃ q, inB x.c b 4294967295 = q := ⟨_, rfl⟩
    obtain ⟨q3, hq3⟩ : ∃ q, inB x.s b 16777215 = q := ⟨_, rfl⟩
    obtain ⟨q4, hq4⟩ : ∃ q, inB x.t b 16777215 = q := ⟨_, rfl⟩
    rw [hq1, hq2, hq3, hq4]
    simp only [hq1] at H1
    simp only [hq2] at H2
    simp only [hq3] at H3
    simp only [hq4] at H4
    have HK := Lib.hid hck
    have hbw : ∀ w3, Below w2.heap.size w2 w3 → Below w.heap.size w w3 := fun w3 hb3 => hsw.2.trans (hb3.mono hsw.2.size)
    have HBW := Lib.hid hbw
    clear h1 h2 h3 h4 hq1 hq2 hq3 hq4 hck hsw hok hb hn hw2 hbw
    go_enter Tryd.func12, Tryd.ntmps12
    go_wp2_with (first
      | (change wpList _ _ _ _ _ ((w.alloc (.cells (gv b l y n s r) 23)).alloc (.cells #[vf, vc, vs, vt] 26)); rw [HW2.out]; refine wpList_load_row rfl 23 (.tmp 2) rfl w.heap.size rfl 23 (gv b l y n s r) (0, 0) _ HSW.out.1.2.1 Tryd.underlying23 rfl size_geo ?_))
    refine (rge_check b l y n s r w2).mono ?_
    rintro e w3 ⟨rfl, hb3⟩
    rw [HK.out]
    have hsw3 := HSW.out.call hb3
    obtain ⟨g0, g2, g3⟩ := hsw3.geo
    obtain ⟨c0, c1, c2, c3⟩ := hsw3.four
    have HB3 := Lib.hid hb3
    clear hb3 hsw3
    go_wp2_with fail
    refine (H1.out w3 HB3.out).mono ?_
    rintro e w4 ⟨rfl, hb4⟩
    have hb4' := HB3.out.trans (hb4.mono HB3.out.size)
    clear g0 g2 g3 c0 c1 c2 c3 hb4
    have hsw4 := HSW.out.call hb4'
    have HB4 := Lib.hid hb4'
    cases q1
    · clear hsw4 hb4'
      go_wp2_with fail
      go_ret
      exact ⟨rfl, HBW.out _ HB4.out⟩
    obtain ⟨g0, g2, g3⟩ := hsw4.geo
    obtain ⟨c0, c1, c2, c3⟩ := hsw4.four
    clear hsw4 hb4'
    go_wp2_with fail
    refine (H2.out w4 HB4.out).mono ?_
    rintro e w5 ⟨rfl, hb5⟩
    have hb5' := HB4.out.trans (hb5.mono HB4.out.size)
    clear g0 g2 g3 c0 c1 c2 c3 hb5
    have hsw5 := HSW.out.call hb5'
    have HB5 := Lib.hid hb5'
    cases q2
    · clear hsw5 hb5'
      go_wp2_with fail
      go_ret
      exact ⟨rfl, HBW.out _ HB5.out⟩
    obtain ⟨g0, g2, g3⟩ := hsw5.geo
    obtain ⟨c0, c1, c2, c3⟩ := hsw5.four
    clear hsw5 hb5'
    go_wp2_with fail
    refine (H3.out w5 HB5.out).mono ?_
    rintro e w6 ⟨rfl, hb6⟩
    have hb6' := HB5.out.trans (hb6.mono HB5.out.size)
    clear g0 g2 g3 c0 c1 c2 c3 hb6
    have hsw6 := HSW.out.call hb6'
    have HB6 := Lib.hid hb6'
    cases q3
    · clear hsw6 hb6'
      go_wp2_with fail
      go_ret
      exact ⟨rfl, HBW.out _ HB6.out⟩
    obtain ⟨g0, g2, g3⟩ := hsw6.geo
    obtain ⟨c0, c1, c2, c3⟩ := hsw6.four
    clear hsw6 hb6'
    go_wp2_with fail
    refine (H4.out w6 HB6.out).mono ?_
    rintro e w7 ⟨rfl, hb7⟩
    have HB7 := Lib.hid (HB6.out.trans (hb7.mono HB6.out.size))
    clear g0 g2 g3 c0 c1 c2 c3 hb7
    go_wp2_with fail
    go_ret
    exact ⟨rfl, HBW.out _ HB7.out⟩
  · rw [fitsB_no hok]
    have HK := Lib.hid hck
    have HBW : Hid (∀ w3, Below w2.heap.size w2 w3 → Below w.heap.size w w3) := fun w3 hb3 => hsw.2.trans (hb3.mono hsw.2.size)
    clear h1 h2 h3 h4 hck hsw hok hw2
    go_enter Tryd.func12, Tryd.ntmps12
    go_wp2_with (first
      | (change wpList _ _ _ _ _ ((w.alloc (.cells (gv b l y n s r) 23)).alloc (.cells #[vf, vc, vs, vt] 26)); rw [HW2.out]; refine wpList_load_row rfl 23 (.tmp 2) rfl w.heap.size rfl 23 (gv b l y n s r) (0, 0) _ HSW.out.1.2.1 Tryd.underlying23 rfl size_geo ?_))
    refine (rge_check b l y n s r w2).mono ?_
    rintro e w3 ⟨rfl, hb3⟩
    rw [HK.out]
    have HB3 := Lib.hid hb3
    clear hb3
    go_wp2_with fail
    go_ret
    exact ⟨rfl, HBW.out _ HB3.out⟩

end Go.Proofs.YtidakannaephoaaDoor

/- The text of what is durable, as it grows; and its pages. -/
namespace Go.Proofs.YtidakannaephoaaDoor
set_option maxRecDepth 100000
open Go.RowKit

def accF (l : List Int) (i : Nat) : ByteArray := ⟨(secB (l.take i)).toArray⟩
def accK (x : Sn) (i : Nat) : ByteArray := ⟨(secB x.f ++ (List.range i).flatMap (blkB x)).toArray⟩
theorem accF_step (l : List Int) (i : Nat) (h : i < l.length) : accF l (i + 1) = accF l i ++ leS l[i] 6 := by
  apply bytes_eq
  rw [ByteArray.data_append, Array.toList_append]
  show secB (l.take (i + 1)) = secB (l.take i) ++ le l[i] 6
  have h2 : l.take (i + 1) = l.take i ++ [l[i]] := by rw [List.take_add_one, List.getElem?_eq_getElem h]; rfl
  rw [h2]
  unfold secB
  rw [List.flatMap_append, List.flatMap_cons, List.flatMap_nil, List.append_nil]
theorem accF_size (l : List Int) (i : Nat) : (accF l i).size = 6 * min i l.length := by
  show (secB (l.take i)).length = _
  rw [secB_len, List.length_take]
theorem accF_all (x : Sn) : accF x.f x.f.length = accK x 0 := by
  unfold accF accK
  simp
theorem accK_step (x : Sn) (i : Nat) (h : i < x.c.length) (h2 : i < x.s.length) (h3 : i < x.t.length) : accK x (i + 1) = ((accK x i ++ leS x.c[i] 4) ++ leS x.s[i] 3) ++ leS x.t[i] 3 := by
  apply bytes_eq
  simp only [ByteArray.data_append, Array.toList_append]
  show secB x.f ++ (List.range (i + 1)).flatMap (blkB x) = ((secB x.f ++ (List.range i).flatMap (blkB x)) ++ le x.c[i] 4) ++ le x.s[i] 3 ++ le x.t[i] 3
  rw [List.range_succ, List.flatMap_append]
  simp [blkB, List.getD_eq_getElem?_getD, List.getElem?_eq_getElem h, List.getElem?_eq_getElem h2, List.getElem?_eq_getElem h3]
theorem accK_size (x : Sn) (i : Nat) : (accK x i).size = 6 * x.f.length + 10 * i := by
  show (secB x.f ++ (List.range i).flatMap (blkB x)).length = _
  rw [List.length_append, secB_len, blksB_len]
/-- the padded text, whole -/
def textN (x : Sn) (k y : Nat) : ByteArray := padT (accK x x.c.length) (k * y - (6 * x.f.length + 10 * x.c.length))
theorem textN_eq (x : Sn) (k y : Nat) : textN x k y = ⟨(padN x k y).toArray⟩ := by
  apply bytes_eq
  unfold textN padT padN
  rw [bytesN_len]
  rfl
theorem textN_size (x : Sn) (k y : Nat) (h : 6 * x.f.length + 10 * x.c.length ≤ k * y) : (textN x k y).size = k * y := by
  unfold textN; rw [padT_size, accK_size]; omega
theorem page_ext (x : Sn) (k y i : Nat) : (textN x k y).extract (i * y) (i * y + y) = pageN x k y i := by
  apply bytes_eq
  rw [textN_eq, ByteArray.data_extract, Array.toList_extract]
  show ((padN x k y).extract (i * y) (i * y + y)) = ((padN x k y).drop (i * y)).take y
  rw [List.extract_eq_take_drop]
  congr 1; omega

/-- what stays true as the world grows -/
def Stay (S : World → Prop) : Prop := ∀ w w', S w → Below w.heap.size w w' → S w'
theorem Stay.cell (p : Addr) (v : Value) : Stay fun w => w.cell? p = some v := fun _ _ h hb => (hb.cell (cell_lt h)).trans h
theorem Stay.and {S T : World → Prop} (h : Stay S) (h2 : Stay T) : Stay fun w => S w ∧ T w := fun _ _ hw hb => ⟨h _ _ hw.1 hb, h2 _ _ hw.2 hb⟩
theorem Stay.below (w : World) : Stay fun w' => Below w.heap.size w w' := fun _ _ h hb => h.trans (hb.mono h.size)
theorem num_stay {S : World → Prop} (hS : Stay S) (v : Int) (n : Nat) (w : World) (hw : S w) (h1 : 1 ≤ n) (h2 : n ≤ 6) (v0 : 0 ≤ v) (v1 : v < p2 (8 * n)) :
    Calls Tryd.prog 23 #[.int .i64 v, .int .i64 n] w fun e w' => e = .returned (.string (leS v n)) ∧ S w' := by
  have h3 : p2 (8 * n) ≤ p2 48 := p2_le (by omega)
  have h4 : p2 48 = 281474976710656 := by decide
  refine (rtag_number v n w h1 (by omega) v0 v1 (by omega)).mono ?_
  rintro e w' ⟨rfl, hb⟩
  exact ⟨rfl, hS _ _ hw hb⟩

theorem ownsRow_monoS {W : World} {B B' : Nat} {e : TypeId} {size : Nat} {v : Value} {n : Nat} {xs : List Value} (h : W.ownsRow B e size v n xs) (hb : B' ≤ B) : W.ownsRow B' e size v n xs := by
  refine ⟨h.1, ?_⟩
  rcases h.2 with ⟨rfl, h0⟩ | ⟨g, cap, cur, rfl, hbg, hg, h1⟩
  · exact .inl ⟨rfl, h0⟩
  · exact .inr ⟨g, cap, cur, rfl, by omega, hg, h1⟩
theorem SnW.far {w0 w w' : World} {b l y n s r : Int} {A : Array Value} (h : SnW w0 b l y n s r A w) (hb : Below (w0.heap.size + 2) w w') : SnW w0 b l y n s r A w' :=
  ⟨⟨Nat.le_trans h.1.1 hb.size, h.1.2.1.below hb (by omega), h.1.2.2.below hb (by omega)⟩, h.2.trans (hb.mono (by omega))⟩

end Go.Proofs.YtidakannaephoaaDoor

/- The reference's Put. -/
namespace Go.Proofs.YtidakannaephoaaDoor
set_option maxRecDepth 100000
open Go.RowKit

/-- what Put answers -/
def PutS (b l y n s r : Int) (x : Sn) (w : World) (e : Ending) (w' : World) : Prop :=
  (¬ OkG b l y n s r → e = .returned (.tuple #[.slice none 0 0, .int .i64 60]))
  ∧ (OkG b l y n s r → ¬ FitS b n x → e = .returned (.tuple #[.slice none 0 0, .int .i64 130]))
  ∧ (OkG b l y n s r → FitS b n x → ∃ v, e = .returned (.tuple #[v, .int .i64 0]) ∧ w'.ownsRow w.heap.size 9 1 v (snapsG b y n).toNat (strV (pgsN x (snapsG b y n).toNat y.toNat)))
  ∧ Below w.heap.size w w'

theorem size_state : (Tryd.prog.info? 26).map (·.size) = some 4 := by kernel_rfl
theorem snaps_nat (M N Y : Nat) (_ : 1 ≤ Y) : snapsG (M : Int) (Y : Int) (N : Int) = (((6 * N + 10 * M + (Y - 1)) / Y : Nat) : Int) := by
  unfold snapsG
  rw [Int.natCast_ediv]
  congr 1
  omega
theorem mod_int (A B Y : Nat) : ((A : Int) + (B : Int)) % (Y : Int) = (((A + B) % Y : Nat) : Int) := by
  rw [Int.natCast_emod, Int.natCast_add]
theorem snaps_mul {T Y : Nat} (hY : 1 ≤ Y) : T ≤ (T + (Y - 1)) / Y * Y ∧ (T + (Y - 1)) / Y * Y < T + Y := by
  have h1 := Nat.div_mul_le_self (T + (Y - 1)) Y
  have h2 := Nat.lt_div_mul_add (a := T + (Y - 1)) (b := Y) (by omega)
  omega
theorem mod_in {L K Y : Nat} (h : L ≤ K * Y) (hm : L % Y ≠ 0) : L + 1 ≤ K * Y := by
  rcases Nat.lt_or_ge L (K * Y) with h1 | h1
  · exact h1
  · exact absurd (by rw [Nat.le_antisymm h h1]; exact Nat.mul_mod_left K Y) hm
theorem mod_end {L T K Y : Nat} (h : L ≤ K * Y) (hT : T ≤ L) (hK : K * Y < T + Y) (hm : L % Y = 0) (_ : 1 ≤ Y) : L = K * Y := by
  obtain ⟨q, hq⟩ := Nat.dvd_of_mod_eq_zero hm
  subst hq
  rw [Nat.mul_comm Y q] at *
  rcases Nat.lt_or_ge q K with h1 | h1
  · have h2 : (q + 1) * Y ≤ K * Y := Nat.mul_le_mul_right Y h1
    rw [Nat.add_mul] at h2; omega
  · have h2 : K * Y ≤ q * Y := Nat.mul_le_mul_right Y h1
    omega
theorem p2_24 : p2 (8 * 3) = 16777216 := by decide
theorem p2_32 : p2 (8 * 4) = 4294967296 := by decide
theorem p2_48 : p2 (8 * 6) = 281474976710656 := by decide

/-- the cells that a round over the blocks reads -/
def RndC (w2 : World) (B : Nat) (vc vs vt : Value) (pc ps pt : Addr) (ci si ti : Int) (w' : World) : Prop :=
  (w'.cell? ⟨B, 1, none⟩ = some vc ∧ w'.cell? ⟨B, 2, none⟩ = some vs ∧ w'.cell? ⟨B, 3, none⟩ = some vt) ∧ (w'.cell? pc = some (.int .i64 ci) ∧ w'.cell? ps = some (.int .i64 si) ∧ w'.cell? pt = some (.int .i64 ti)) ∧ Below w2.heap.size w2 w'
theorem RndC.stay (w2 : World) (B : Nat) (vc vs vt : Value) (pc ps pt : Addr) (ci si ti : Int) : Stay (RndC w2 B vc vs vt pc ps pt ci si ti) :=
  ((Stay.cell _ _).and ((Stay.cell _ _).and (Stay.cell _ _))).and (((Stay.cell _ _).and ((Stay.cell _ _).and (Stay.cell _ _))).and (Stay.below _))

set_option maxHeartbeats 4000000 in
theorem rsn_put (w : World) (b l y n s r : Int) (A : Array Value) (x : Sn) (hA : SnAt w A x) :
    Calls Tryd.prog 8 #[.agg (gv b l y n s r), .agg A] w (PutS b l y n s r x w) := by
  obtain ⟨w2, hw2⟩ : ∃ w2, (w.alloc (.cells (gv b l y n s r) 23)).alloc (.cells A 26) = w2 := ⟨_, rfl⟩
  have hsw : SnW w b l y n s r A w2 := by rw [← hw2]; exact SnW.new _ _ _ _ _ _ _ _
  have HFI : Hid (∀ w3, Below w2.heap.size w2 w3 → Calls Tryd.prog 12 #[.agg (gv b l y n s r), .agg A] w3 fun e w' => e = .returned (.bool (fitsB b l y n s r x)) ∧ Below w3.heap.size w3 w') := fun w3 hb3 => rsn_fits w3 b l y n s r A x ((hA.below hsw.2).below hb3)
  obtain ⟨vf, vc, vs, vt, rfl, h1, h2, h3, h4⟩ := hA
  have HSW := Lib.hid hsw
  have HW2 := Lib.hid hw2
  have hbw : ∀ w3, Below w2.heap.size w2 w3 → Below w.heap.size w w3 := fun w3 hb3 => hsw.2.trans (hb3.mono hsw.2.size)
  have HBW := Lib.hid hbw
  have four_one : (#[vf, vc, vs, vt] : Array Value).size = 4 := rfl
  clear hbw hw2 hsw
  rcases chk_eq0 b l y n s r with ⟨hck, hok⟩ | ⟨hck, hok⟩
  · have HK := Lib.hid hck
    have HOK := Lib.hid hok
    by_cases hfit : FitS b n x
    · have HFT := Lib.hid hfit
      have hfb : fitsB b l y n s r x = true := decide_eq_true ⟨hok, hfit⟩
      have HFB := Lib.hid hfb
      have H1 := Lib.hid h1
      have H2 := Lib.hid h2
      have H3 := Lib.hid h3
      have H4 := Lib.hid h4
      clear hck hok hfit hfb h1 h2 h3 h4
      go_enter Tryd.func8, Tryd.ntmps8
      go_wp2_with (first
        | (change wpList _ _ _ _ _ ((w.alloc (.cells (gv b l y n s r) 23)).alloc (.cells #[vf, vc, vs, vt] 26)); rw [HW2.out]; refine wpList_load_row rfl 23 (.tmp 2) rfl w.heap.size rfl 23 (gv b l y n s r) (0, 0) _ HSW.out.1.2.1 Tryd.underlying23 rfl size_geo ?_))
      refine (rge_check b l y n s r w2).mono ?_
      rintro e w3 ⟨rfl, hb3⟩
      rw [HK.out]
      have HB3 := Lib.hid hb3
      clear hb3
      go_wp2_with (first
        | (refine wpList_load_row rfl 23 (.tmp 2) rfl w.heap.size rfl 23 (gv b l y n s r) (0, 0) _ (HSW.out.call HB3.out).1.2.1 Tryd.underlying23 rfl size_geo ?_)
        | (refine wpList_load_row rfl 26 (.tmp 3) rfl (w.heap.size + 1) rfl 26 #[vf, vc, vs, vt] (0, 0) _ (HSW.out.call HB3.out).1.2.2 Tryd.underlying26 rfl size_state ?_))
      refine (HFI.out w3 HB3.out).mono ?_
      rintro e w4 ⟨rfl, hb4⟩
      rw [HFB.out]
      have HB4 := Lib.hid (HB3.out.trans (hb4.mono HB3.out.size))
      clear hb4 HB3
      go_wp2_with fail
      obtain ⟨N, hN⟩ : ∃ N : Nat, n = N := ⟨n.toNat, by have h := HOK.out.1; unfold PreG at h; omega⟩
      obtain ⟨M, hM⟩ : ∃ M : Nat, b = M := ⟨b.toNat, by have h := HOK.out.1; unfold PreG at h; omega⟩
      obtain ⟨Y, hY⟩ : ∃ Y : Nat, y = Y := ⟨y.toNat, by have h := HOK.out.1; unfold PreG at h; omega⟩
      subst hN hM hY
      have hbd : N ≤ 4096 ∧ M ≤ 64 ∧ 16 ≤ Y ∧ Y ≤ 256 := by have h := HOK.out.1; unfold PreG at h; omega
      obtain ⟨⟨l1, m1⟩, ⟨l2, m2⟩, ⟨l3, m3⟩, ⟨l4, m4⟩⟩ := HFT.out
      have LN : Hid (x.f.length = N ∧ x.c.length = M ∧ x.s.length = M ∧ x.t.length = M) := ⟨by omega, by omega, by omega, by omega⟩
      have HBD := Lib.hid hbd
      have M1 := Lib.hid m1
      have M2 := Lib.hid m2
      have M3 := Lib.hid m3
      have M4 := Lib.hid m4
      clear hbd l1 l2 l3 l4 m1 m2 m3 m4
      obtain ⟨of, cf, rfl, kf, ef⟩ := H1.out
      obtain ⟨oc, cc, rfl, kc, ec⟩ := H2.out
      obtain ⟨os, cs, rfl, ks, es⟩ := H3.out
      obtain ⟨ot, ct, rfl, kt, et⟩ := H4.out
      clear H1 H2 H3 H4
      rw [LN.out.1, LN.out.2.1, LN.out.2.2.1, LN.out.2.2.2] at HSW
      have EF := Lib.hid ef
      have EC := Lib.hid ec
      have ES := Lib.hid es
      have ET := Lib.hid et
      clear ef ec es et kf kc ks kt HFI HW2 HFB HK four_one
      go_loopw [6, 7] (fun sv iv wr => ∃ i : Nat, i ≤ N ∧ iv = .int .i64 i ∧ sv = .string (accF x.f i) ∧ Hid (Below w2.heap.size w2 wr)) (fun _ iv _ => N + 1 - (intOf iv).toNat)
      case atStart => exact ⟨0, Nat.zero_le _, rfl, rfl, HB4.out⟩
      case round =>
        obtain ⟨i, hi, rfl, rfl, HB5⟩ := hrel
        obtain ⟨f0, f1, f2, f3⟩ := (HSW.out.call HB5.out).four
        by_cases hlt : i < N
        · have hltz : (i : Int) < (N : Int) := by omega
          have hil : i < x.f.length := by have := LN.out.1; omega
          obtain ⟨gb, go, rfl, hg, hrow⟩ := EF.out (by intro h0; rw [h0] at hil; exact absurd hil (Nat.not_lt_zero _))
          have r1 := hrow i hil
          have c1 := ((HSW.out.2.trans (HB5.out.mono HSW.out.2.size)).cell (p := ⟨gb, go + i, none⟩) (cell_lt r1)).trans r1
          have hv := M1.out _ (List.getElem_mem hil)
          have hst := accF_step x.f i hil
          have hsz := accF_size x.f i
          obtain ⟨v, hve⟩ : ∃ v, x.f[i] = v := ⟨_, rfl⟩
          rw [hve] at c1 hv hst
          have HV := Lib.hid hv
          have HST := Lib.hid hst
          have hno : ¬ 9223372036854775807 < (accF x.f i).size + (leS v 6).size := by rw [hsz, leS_size]; have := HBD.out; omega
          have HNO := Lib.hid hno
          clear hrow r1 hv hst hve hil hsz hno
          go_wp2_with fail
          refine (num_stay (Stay.below w2) v 6 wr HB5.out (by decide) (by decide) HV.out.1 (by rw [p2_48]; have := HV.out.2; omega)).mono ?_
          rintro e w6 ⟨rfl, hb6⟩
          have HB6 := Lib.hid hb6
          clear hb6 HB5
          have hno := HNO.out
          have h4096 := HBD.out.1
          go_wp2_with fail
          refine ⟨⟨i + 1, by omega, by go_num, congrArg Value.string HST.out.symm, HB6⟩, ?_⟩
          simp [intOf]; omega
        · obtain rfl : i = N := by omega
          have hltz : ¬ (i : Int) < (i : Int) := by omega
          have hall : accF x.f i = accK x 0 := by have h := accF_all x; rw [LN.out.1] at h; exact h
          rw [hall]
          clear hall hlt EF
          go_wp2_with fail
          obtain ⟨w7, hw7⟩ : ∃ w7, wr = w7 := ⟨_, rfl⟩
          have HB7 : Hid (Below w2.heap.size w2 w7) := by rw [← hw7]; exact HB5
          subst hw7
          clear f0 f1 f2 f3 hltz hi HB5 HB4
          go_loopw [6, 8] (fun sv jv wr => ∃ j : Nat, j ≤ M ∧ jv = .int .i64 j ∧ sv = .string (accK x j) ∧ Hid (Below w2.heap.size w2 wr)) (fun _ jv _ => M + 1 - (intOf jv).toNat)
          case atStart => exact ⟨0, Nat.zero_le _, rfl, rfl, HB7.out⟩
          case round =>
            obtain ⟨j, hj, rfl, rfl, HB8⟩ := hrel
            obtain ⟨f0, f1, f2, f3⟩ := (HSW.out.call HB8.out).four
            by_cases hlt : j < M
            · have hltz : (j : Int) < (M : Int) := by omega
              have j1 : j < x.c.length := by have := LN.out.2.1; omega
              have j2 : j < x.s.length := by have := LN.out.2.2.1; omega
              have j3 : j < x.t.length := by have := LN.out.2.2.2; omega
              obtain ⟨gc, pc, rfl, hg1, hrow1⟩ := EC.out (by intro h0; rw [h0] at j1; exact absurd j1 (Nat.not_lt_zero _))
              obtain ⟨gs, ps, rfl, hg2, hrow2⟩ := ES.out (by intro h0; rw [h0] at j2; exact absurd j2 (Nat.not_lt_zero _))
              obtain ⟨gt, pt, rfl, hg3, hrow3⟩ := ET.out (by intro h0; rw [h0] at j3; exact absurd j3 (Nat.not_lt_zero _))
              have r1 := hrow1 j j1
              have r2 := hrow2 j j2
              have r3 := hrow3 j j3
              have hbb := HSW.out.2.trans (HB8.out.mono HSW.out.2.size)
              have c1 := (hbb.cell (p := ⟨gc, pc + j, none⟩) (cell_lt r1)).trans r1
              have c2 := (hbb.cell (p := ⟨gs, ps + j, none⟩) (cell_lt r2)).trans r2
              have c3 := (hbb.cell (p := ⟨gt, pt + j, none⟩) (cell_lt r3)).trans r3
              have v1 := M2.out _ (List.getElem_mem j1)
              have v2 := M3.out _ (List.getElem_mem j2)
              have v3 := M4.out _ (List.getElem_mem j3)
              have hst := accK_step x j j1 j2 j3
              have hsz := accK_size x j
              obtain ⟨ci, e1⟩ : ∃ v, x.c[j] = v := ⟨_, rfl⟩
              obtain ⟨si, e2⟩ : ∃ v, x.s[j] = v := ⟨_, rfl⟩
              obtain ⟨ti, e3⟩ : ∃ v, x.t[j] = v := ⟨_, rfl⟩
              rw [e1] at c1 v1
              rw [e2] at c2 v2
              rw [e3] at c3 v3
              rw [e1, e2, e3] at hst
              have V1 := Lib.hid v1
              have V2 := Lib.hid v2
              have V3 := Lib.hid v3
              have HST := Lib.hid hst
              have hq1 : ¬ 9223372036854775807 < (accK x j).size + (leS ci 4).size := by rw [hsz, leS_size]; have := HBD.out; have := LN.out; omega
              have hq2 : ¬ 9223372036854775807 < (accK x j ++ leS ci 4).size + (leS si 3).size := by rw [ByteArray.size_append, hsz, leS_size, leS_size]; have := HBD.out; have := LN.out; omega
              have hq3 : ¬ 9223372036854775807 < ((accK x j ++ leS ci 4) ++ leS si 3).size + (leS ti 3).size := by rw [ByteArray.size_append, ByteArray.size_append, hsz, leS_size, leS_size, leS_size]; have := HBD.out; have := LN.out; omega
              have hp2 : ¬ 9223372036854775807 < (accK x j).size + (leS ci 4).size + (leS si 3).size := by rw [hsz, leS_size, leS_size]; have := HBD.out; have := LN.out; omega
              have hp3 : ¬ 9223372036854775807 < (accK x j).size + (leS ci 4).size + (leS si 3).size + (leS ti 3).size := by rw [hsz, leS_size, leS_size, leS_size]; have := HBD.out; have := LN.out; omega
              have i1 : (0 : Int) ≤ (j : Int) := by omega
              have HSY : Hid (RndC w2 (w.heap.size + 1) (.slice (some ⟨gc, pc, none⟩) M cc) (.slice (some ⟨gs, ps, none⟩) M cs) (.slice (some ⟨gt, pt, none⟩) M ct) ⟨gc, pc + j, none⟩ ⟨gs, ps + j, none⟩ ⟨gt, pt + j, none⟩ ci si ti wr) := ⟨⟨f1, f2, f3⟩, ⟨c1, c2, c3⟩, HB8.out⟩
              clear hrow1 hrow2 hrow3 r1 r2 r3 hbb v1 v2 v3 hst hsz e1 e2 e3 j1 j2 j3 hg1 hg2 hg3 f0
              go_upto_region 13 with fail
              have h64 := HBD.out.2.1
              go_region_held3 (fun w' => w'.cell? ⟨w.heap.size + 1, 1, none⟩ = some (.slice (some ⟨gc, pc, none⟩) M cc) ∧ w'.cell? ⟨w.heap.size + 1, 2, none⟩ = some (.slice (some ⟨gs, ps, none⟩) M cs) ∧ w'.cell? ⟨w.heap.size + 1, 3, none⟩ = some (.slice (some ⟨gt, pt, none⟩) M ct) ∧ w'.cell? ⟨gc, pc + j, none⟩ = some (.int .i64 ci) ∧ w'.cell? ⟨gs, ps + j, none⟩ = some (.int .i64 si) ∧ w'.cell? ⟨gt, pt + j, none⟩ = some (.int .i64 ti) ∧ Below w2.heap.size w2 w') (first | (go_keep; done) | (refine ⟨?_, ?_, ?_, ?_, ?_, ?_, ?_⟩ <;> first | assumption | (apply Below.drew; first | exact HB8.out | assumption)))
                (first
                  | (go_at_call_of 23 (Value.int .i64 ci); refine (num_stay (RndC.stay w2 (w.heap.size + 1) (.slice (some ⟨gc, pc, none⟩) M cc) (.slice (some ⟨gs, ps, none⟩) M cs) (.slice (some ⟨gt, pt, none⟩) M ct) ⟨gc, pc + j, none⟩ ⟨gs, ps + j, none⟩ ⟨gt, pt + j, none⟩ ci si ti) ci 4 _ ⟨⟨?_, ?_, ?_⟩, ⟨?_, ?_, ?_⟩, ?_⟩ (by decide) (by decide) V1.out.1 (by rw [p2_32]; have := V1.out.2; omega)).mono ?_; simp [*]; simp [*]; simp [*]; simp [*]; simp [*]; simp [*]; (first | assumption | (apply Below.drew; first | exact HB8.out | assumption)); rintro e w' ⟨rfl, ⟨_, _, _⟩, ⟨_, _, _⟩, _⟩)
                  | (go_at_call_of 23 (Value.int .i64 si); refine (num_stay (RndC.stay w2 (w.heap.size + 1) (.slice (some ⟨gc, pc, none⟩) M cc) (.slice (some ⟨gs, ps, none⟩) M cs) (.slice (some ⟨gt, pt, none⟩) M ct) ⟨gc, pc + j, none⟩ ⟨gs, ps + j, none⟩ ⟨gt, pt + j, none⟩ ci si ti) si 3 _ ⟨⟨?_, ?_, ?_⟩, ⟨?_, ?_, ?_⟩, ?_⟩ (by decide) (by decide) V2.out.1 (by rw [p2_24]; have := V2.out.2; omega)).mono ?_; simp [*]; simp [*]; simp [*]; simp [*]; simp [*]; simp [*]; (first | assumption | (apply Below.drew; first | exact HB8.out | assumption)); rintro e w' ⟨rfl, ⟨_, _, _⟩, ⟨_, _, _⟩, _⟩)
                  | (go_at_call_of 23 (Value.int .i64 ti); refine (num_stay (RndC.stay w2 (w.heap.size + 1) (.slice (some ⟨gc, pc, none⟩) M cc) (.slice (some ⟨gs, ps, none⟩) M cs) (.slice (some ⟨gt, pt, none⟩) M ct) ⟨gc, pc + j, none⟩ ⟨gs, ps + j, none⟩ ⟨gt, pt + j, none⟩ ci si ti) ti 3 _ ⟨⟨?_, ?_, ?_⟩, ⟨?_, ?_, ?_⟩, ?_⟩ (by decide) (by decide) V3.out.1 (by rw [p2_24]; have := V3.out.2; omega)).mono ?_; simp [*]; simp [*]; simp [*]; simp [*]; simp [*]; simp [*]; (first | assumption | (apply Below.drew; first | exact HB8.out | assumption)); rintro e w' ⟨rfl, ⟨_, _, _⟩, ⟨_, _, _⟩, _⟩))
              have HB9 : Hid (Below w2.heap.size w2 w') := by assumption
              clear hq1 hq2 hq3 hp2 hp3
              go_wp2_with fail
              refine ⟨⟨j + 1, by omega, by go_num, congrArg Value.string HST.out.symm, HB9⟩, ?_⟩
              simp [intOf]; omega
            · obtain rfl : j = M := by omega
              have hltz : ¬ (j : Int) < (j : Int) := by omega
              obtain ⟨st, hst⟩ : ∃ st, accK x j = st := ⟨_, rfl⟩
              have hss : st.size = 6 * i + 10 * j := by rw [← hst, accK_size, LN.out.1]
              have HSS := Lib.hid hss
              have HST := Lib.hid hst
              rw [hst]
              have hY16 := HBD.out.2.2.1
              obtain ⟨K, hK⟩ : ∃ K, (6 * i + 10 * j + (Y - 1)) / Y = K := ⟨_, rfl⟩
              have hkm := snaps_mul (T := 6 * i + 10 * j) (Y := Y) (by omega)
              have hks := snaps_nat j i Y (by omega)
              rw [hK] at hkm hks
              have HKM := Lib.hid hkm
              have HKS := Lib.hid hks
              clear hK hkm hks hY16
              clear hst hss hlt EC ES ET f0 hj HB7
              go_wp2_with fail
              clear f1 f2 f3 hltz
              obtain ⟨w9, hw9⟩ : ∃ w9, wr = w9 := ⟨_, rfl⟩
              have HB9 : Hid (Below w2.heap.size w2 w9) := by rw [← hw9]; exact HB8
              subst hw9
              clear HB8
              go_loopw [6] (fun sv wr => ∃ t : Nat, st.size + t ≤ K * Y ∧ sv = .string (padT st t) ∧ Hid (Below w2.heap.size w2 wr)) (fun sv _ => K * Y - szV sv)
              case atStart => exact ⟨0, by rw [HSS.out]; have := HKM.out; omega, by rw [padT_zero], HB9.out⟩
              case round =>
                obtain ⟨t, ht, rfl, HB10⟩ := hrel
                obtain ⟨g0, g2, g3⟩ := (HSW.out.call HB10.out).geo
                have hps : (padT st t).size = st.size + t := padT_size _ _
                by_cases hmod : (st.size + t) % Y = 0
                · have hmb : (((st.size : Int) + (t : Int)) % (Y : Int) != 0) = false := by rw [mod_int, hmod]; rfl
                  have hend : st.size + t = K * Y := mod_end ht (Nat.le_add_right _ _) (by rw [HSS.out]; exact HKM.out.2) hmod (by have := HBD.out; omega)
                  have hY1 : (Y : Int) ≠ 0 := by have := HBD.out; omega
                  have htx : padT st t = textN x K Y := by
                    unfold textN; rw [LN.out.1, LN.out.2.1, HST.out]; congr 1; have := HSS.out; omega
                  rw [hend] at hps
                  rw [htx] at hps ⊢
                  have hq : st.size + t ≤ 9223372036854775807 := by have := HKM.out; have := HBD.out; omega
                  clear hmod htx
                  go_wp2_with fail
                  obtain ⟨text, htext⟩ : ∃ text, textN x K Y = text := ⟨_, rfl⟩
                  obtain ⟨T, hT⟩ : ∃ T, K * Y = T := ⟨_, rfl⟩
                  rw [htext] at hps ⊢
                  rw [hT] at hps
                  have HTX := Lib.hid htext
                  have HT := Lib.hid hT
                  have HT2 : Hid (T ≤ 100000) := by show T ≤ 100000; have := HKM.out; have := HBD.out; omega
                  obtain ⟨wa, hwa⟩ : ∃ wa, wr = wa := ⟨_, rfl⟩
                  have HB11 : Hid (Below w2.heap.size w2 wa) := by rw [← hwa]; exact HB10
                  subst hwa
                  clear HB10 htext hT hend hmb hY1 g0 g2 g3 HB9 hq ht
                  go_loopw [9, 10] (fun ov qv wr => ∃ p q : Nat, p ≤ K ∧ qv = .int .i64 q ∧ Hid (q = p * Y) ∧ Hid (wr.ownsRow (w.heap.size + 2) 9 1 ov p (strV ((List.range p).map (pageN x K Y)))) ∧ Hid (SnW w j l Y i s r #[.slice of i cf, .slice oc j cc, .slice os j cs, .slice ot j ct] wr)) (fun _ qv _ => T + 1 - (intOf qv).toNat)
                  case atStart => exact ⟨0, 0, Nat.zero_le _, rfl, (Nat.zero_mul _).symm, ⟨rfl, Or.inl ⟨rfl, rfl⟩⟩, HSW.out.call HB11.out⟩
                  case round =>
                    obtain ⟨p, q, hp, rfl, HQ, HOW, HSR⟩ := hrel
                    obtain ⟨g0, g2, g3⟩ := HSR.out.geo
                    have hyb := HBD.out.2.2
                    by_cases hlt : p < K
                    · have hqT : q + Y ≤ T := by
                        have h1 := HQ.out; have h2 := HT.out
                        have h3 : (p + 1) * Y ≤ K * Y := Nat.mul_le_mul_right Y hlt
                        rw [Nat.add_mul] at h3; omega
                      have hqz : (q : Int) + (Y : Int) ≤ (T : Int) := by omega
                      have ht2 := HT2.out
                      have hto : ((q : Int) + (Y : Int)).toNat = q + Y := by omega
                      obtain ⟨pg, hpg⟩ : ∃ pg, text.extract q (q + Y) = pg := ⟨_, rfl⟩
                      have HPG : Hid (pg = pageN x K Y p) := by
                        show pg = _
                        rw [← hpg, ← HTX.out, HQ.out]; exact page_ext _ _ _ _
                      obtain ⟨i0, hi0, hz0, hz1, hz2⟩ := info_partsX infoStr
                      have hown := HOW.out
                      have hcn := cells_newX wr #[.string pg] 9
                      have HCN := Lib.hid hcn
                      clear hcn
                      go_wp2_with (first
                        | (at_builtin; refine wpList_append_own _ rfl _ _ 27 rfl (w.heap.size + 2) 9 i0 (.string ByteArray.empty) 1 16 Tryd.underlying27 hi0 hz0 hz1 hz2 rfl (by decide) _ _ _ rfl (hown.alloc _) ⟨wr.heap.size, 0, none⟩ 1 1 [.string pg] rfl rfl ?c1 ?c2 ?c3 ?c4 ?c5 ?_))
                      case c2 => rfl
                      case c3 => unfold maxLen; have := HT2.out; have := HKM.out; have h9 := HT.out; have h6 : K * 1 ≤ K * Y := Nat.mul_le_mul_left K (by omega); omega
                      case c4 => have := HT2.out; have h9 := HT.out; have h6 : K * 1 ≤ K * Y := Nat.mul_le_mul_left K (by omega); omega
                      case c5 => have := HSR.out.1.1; omega
                      intro v' w5 hown1 hgrow1 _
                      have hbb := own_belowX hown HSR.out.1.1 hgrow1
                      have HN2 : Hid (w5.ownsRow (w.heap.size + 2) 9 1 v' (p + 1) (strV ((List.range (p + 1)).map (pageN x K Y)))) := by
                        rw [strV_snoc, ← HPG.out]; exact hown1
                      have hsr := HSR.out.far hbb
                      have HBN := Lib.hid hsr
                      clear hown hown1 hgrow1 hbb HCN hi0 hz0 hz1 hz2 hpg hto g0 g2 g3
                      obtain ⟨g0, g2, g3⟩ := hsr.geo
                      clear hsr
                      go_wp2_with fail
                      go_roundw
                      case rel => exact ⟨p + 1, q + Y, hlt, by go_num, by show q + Y = _; rw [Nat.add_mul, Nat.one_mul, HQ.out], HN2, HBN⟩
                      case measure => simp [intOf]; omega
                    · have hqT : q = T := by
                        have h1 := HQ.out; have h2 := HT.out
                        obtain rfl : p = K := by omega
                        omega
                      subst hqT
                      have hqz : ¬ (q : Int) + (Y : Int) ≤ (q : Int) := by omega
                      have ht2 := HT2.out
                      obtain rfl : p = K := by omega
                      clear hlt
                      go_wp2_with fail
                      go_ret2
                      refine ⟨fun h => absurd HOK.out h, fun _ h => absurd HFT.out h, fun _ _ => ⟨u9, rfl, ?_⟩, HSR.out.2⟩
                      have h5 := ownsRow_monoS HOW.out (Nat.le_add_right w.heap.size 2)
                      rw [HKS.out]
                      exact h5
                · have HIN := Lib.hid (mod_in ht hmod)
                  have hmb : (((st.size : Int) + (t : Int)) % (Y : Int) != 0) = true := by rw [mod_int, bne_iff_ne]; omega
                  have hY1 : (Y : Int) ≠ 0 := by have := HBD.out; omega
                  have hcv := conv_one 0 wr
                  have hbn : Below w2.heap.size w2 (wr.alloc (.cells #[.int .u8 0] 5)) := HB10.out.trans ((Below.refl _ _).alloc HB10.out.size _)
                  have HBN := Lib.hid hbn
                  have hno : ¬ 9223372036854775807 < (padT st t).size + (⟨#[0]⟩ : ByteArray).size := by rw [padT_size]; show ¬ _ < _ + 1; have := HKM.out; have := HBD.out; omega
                  clear hbn hmod HB10
                  go_wp2_with fail
                  refine ⟨⟨t + 1, by have := HIN.out; omega, by rw [padT_step], HBN⟩, ?_⟩
                  show K * Y - (padT st t ++ ⟨#[0]⟩).size < K * Y - (padT st t).size
                  rw [← padT_step, padT_size, padT_size]; have := HIN.out; omega
    · have HFT := Lib.hid hfit
      have hfb : fitsB b l y n s r x = false := decide_eq_false fun h => hfit h.2
      have HFB := Lib.hid hfb
      clear hck hok hfit hfb h1 h2 h3 h4
      go_enter Tryd.func8, Tryd.ntmps8
      go_wp2_with (first
        | (change wpList _ _ _ _ _ ((w.alloc (.cells (gv b l y n s r) 23)).alloc (.cells #[vf, vc, vs, vt] 26)); rw [HW2.out]; refine wpList_load_row rfl 23 (.tmp 2) rfl w.heap.size rfl 23 (gv b l y n s r) (0, 0) _ HSW.out.1.2.1 Tryd.underlying23 rfl size_geo ?_))
      refine (rge_check b l y n s r w2).mono ?_
      rintro e w3 ⟨rfl, hb3⟩
      rw [HK.out]
      have HB3 := Lib.hid hb3
      clear hb3
      go_wp2_with (first
        | (refine wpList_load_row rfl 23 (.tmp 2) rfl w.heap.size rfl 23 (gv b l y n s r) (0, 0) _ (HSW.out.call HB3.out).1.2.1 Tryd.underlying23 rfl size_geo ?_)
        | (refine wpList_load_row rfl 26 (.tmp 3) rfl (w.heap.size + 1) rfl 26 #[vf, vc, vs, vt] (0, 0) _ (HSW.out.call HB3.out).1.2.2 Tryd.underlying26 rfl size_state ?_))
      refine (HFI.out w3 HB3.out).mono ?_
      rintro e w4 ⟨rfl, hb4⟩
      rw [HFB.out]
      have HB4 := Lib.hid (HB3.out.trans (hb4.mono HB3.out.size))
      clear hb4 HB3
      go_wp2_with fail
      go_ret2
      exact ⟨fun h => absurd HOK.out h, fun _ _ => rfl, fun _ h => absurd h HFT.out, HBW.out _ HB4.out⟩
  · have HK := Lib.hid hck
    have HOK := Lib.hid hok
    clear hck hok h1 h2 h3 h4
    go_enter Tryd.func8, Tryd.ntmps8
    go_wp2_with (first
      | (change wpList _ _ _ _ _ ((w.alloc (.cells (gv b l y n s r) 23)).alloc (.cells #[vf, vc, vs, vt] 26)); rw [HW2.out]; refine wpList_load_row rfl 23 (.tmp 2) rfl w.heap.size rfl 23 (gv b l y n s r) (0, 0) _ HSW.out.1.2.1 Tryd.underlying23 rfl size_geo ?_))
    refine (rge_check b l y n s r w2).mono ?_
    rintro e w3 ⟨rfl, hb3⟩
    rw [HK.out]
    have HB3 := Lib.hid hb3
    clear hb3
    go_wp2_with fail
    go_ret2
    exact ⟨fun _ => rfl, fun h => absurd h HOK.out, fun h => absurd h HOK.out, HBW.out _ HB3.out⟩

end Go.Proofs.YtidakannaephoaaDoor

/- Layer 6, the code's small ones: isFrom, isBelow, areAll, Most, Snaps, Raw, Spread. -/
namespace Go.Proofs.YtidakannaephoaaDoor
set_option maxRecDepth 100000
open Go.RowKit

def fromB (v lo hi : Int) : Bool := decide (lo ≤ v ∧ v ≤ hi)
theorem is_from (v lo hi : Int) (w : World) : Calls Tryd.prog 30 #[.int .i64 v, .int .i64 lo, .int .i64 hi] w fun e w' => e = .returned (.bool (fromB v lo hi)) ∧ Below w.heap.size w w' := by
  go_enter Tryd.func30, Tryd.ntmps30
  go_wp2
  all_goals go_ret
  all_goals exact ⟨ret_bool (by unfold fromB; rw [Bool.eq_iff_iff]; simp; try omega), Below.refl _ _⟩
/-- Most and Snaps, whatever the numbers are: as they wrap round -/
def mostW (b l s : Int) : Int := wrap64 ((wrap64 (wrap64 (3 * l) * wrap64 (wrap64 (b - s) - 6))).tdiv 2)
def snapsW (b y n : Int) : Int := if y < 1 then 0 else wrap64 ((wrap64 (wrap64 (wrap64 (wrap64 (6 * n) + wrap64 (10 * b)) + y) - 1)).tdiv y)
theorem wrap64_of {x : Int} (h : -9223372036854775808 ≤ x ∧ x ≤ 9223372036854775807) : wrap64 x = x := by
  unfold wrap64; omega
theorem mostW_pre {b l y n s r : Int} (h : PreG b l y n s r) : mostW b l s = mostG b l s := by
  have hm := pre_most h
  obtain ⟨h1, h2, h3, h4, h5, h6, h7, h8, h9, h10, h11, h12, h13, h14⟩ := h
  unfold mostW mostG
  rw [wrap64_of (x := 3 * l) (by omega), wrap64_of (x := b - s) (by omega), wrap64_of (x := b - s - 6) (by omega), wrap64_of (x := 3 * l * (b - s - 6)) (by omega), Int.tdiv_eq_ediv_of_nonneg hm.1, wrap64_of (by omega)]
theorem snapsW_pre {b l y n s r : Int} (h : PreG b l y n s r) : snapsW b y n = snapsG b y n := by
  have hs := snaps_bd h
  unfold snapsG at hs
  obtain ⟨h1, h2, h3, h4, h5, h6, h7, h8, h9, h10, h11, h12, h13, h14⟩ := h
  unfold snapsW snapsG
  have he : 6 * n + 10 * b + (y - 1) = 6 * n + 10 * b + y - 1 := by omega
  rw [he] at hs ⊢
  rw [if_neg (by omega), wrap64_of (x := 6 * n) (by omega), wrap64_of (x := 10 * b) (by omega), wrap64_of (x := 6 * n + 10 * b) (by omega), wrap64_of (x := 6 * n + 10 * b + y) (by omega), wrap64_of (x := 6 * n + 10 * b + y - 1) (by omega), Int.tdiv_eq_ediv_of_nonneg (by omega), wrap64_of (by omega)]
theorem ge_most_any (b l y n s r : Int) (w : World) :
    Calls Tryd.prog 31 #[.agg (gv b l y n s r)] w fun e w' => e = .returned (.int .i64 (mostW b l s)) ∧ Below w.heap.size w w' := by
  have HB := Lib.hid ((Below.refl w.heap.size w).alloc (Nat.le_refl _) (.cells (gv b l y n s r) 23))
  unfold gv at *
  go_enter Tryd.func31, Tryd.ntmps31
  go_wp2_with fail
  go_ret
  exact ⟨rfl, HB.out⟩
theorem ge_snaps_any (b l y n s r : Int) (w : World) :
    Calls Tryd.prog 21 #[.agg (gv b l y n s r)] w fun e w' => e = .returned (.int .i64 (snapsW b y n)) ∧ Below w.heap.size w w' := by
  have HB := Lib.hid ((Below.refl w.heap.size w).alloc (Nat.le_refl _) (.cells (gv b l y n s r) 23))
  have HS : Hid (y < 1 → snapsW b y n = 0) := fun h => if_pos h
  have HS2 : Hid (¬ y < 1 → snapsW b y n = wrap64 ((wrap64 (wrap64 (wrap64 (wrap64 (6 * n) + wrap64 (10 * b)) + y) - 1)).tdiv y)) := fun h => if_neg h
  obtain ⟨k, hk⟩ : ∃ k, snapsW b y n = k := ⟨_, rfl⟩
  rw [hk] at HS HS2 ⊢
  unfold gv at *
  clear hk
  by_cases h : y < 1
  · go_enter Tryd.func21, Tryd.ntmps21
    go_wp2_with fail
    go_ret
    exact ⟨ret_int (HS.out (by omega)).symm, HB.out⟩
  · go_enter Tryd.func21, Tryd.ntmps21
    go_wp2_with fail
    go_ret
    exact ⟨ret_int (HS2.out (by omega)).symm, HB.out⟩
theorem ge_snaps (b l y n s r : Int) (w : World) (h : OkG b l y n s r) :
    Calls Tryd.prog 21 #[.agg (gv b l y n s r)] w fun e w' => e = .returned (.int .i64 (snapsG b y n)) ∧ Below w.heap.size w w' := by
  rw [← snapsW_pre h.1]
  exact ge_snaps_any b l y n s r w

/-- all of some conditions -/
theorem all_getD (bs : List Bool) (j : Nat) (hj : j < bs.length) (h : bs.getD j false = false) : bs.all id = false := by
  rw [List.all_eq_false]
  refine ⟨bs[j], List.getElem_mem hj, ?_⟩
  rw [List.getD, List.getElem?_eq_getElem hj] at h
  simp at h
  simp [h]
theorem take_all (bs : List Bool) (j : Nat) (hj : j < bs.length) (h : (bs.take j).all id = true) (hb : bs.getD j false = true) : (bs.take (j + 1)).all id = true := by
  rw [List.take_add_one, List.all_append, h, Bool.true_and]
  rw [List.getD, List.getElem?_eq_getElem hj] at hb
  rw [List.getElem?_eq_getElem hj]
  simp at hb
  simp [hb]
theorem all_any (g cap : Nat) (bs : List Bool) (w : World) (hz : bs.length ≤ 1000) (hc : ∀ j, j < bs.length → w.cell? ⟨g, j, none⟩ = some (.bool (bs.getD j false))) :
    Calls Tryd.prog 29 #[.slice (some ⟨g, 0, none⟩) bs.length cap] w fun e w' => e = .returned (.bool (bs.all id)) ∧ w = w' := by
  obtain ⟨m, hm⟩ : ∃ m, bs.length = m := ⟨_, rfl⟩
  rw [hm] at hz hc ⊢
  have HM := Lib.hid hm
  have HC := Lib.hid hc
  clear hm hc
  go_enter Tryd.func29, Tryd.ntmps29
  go_wp2_with fail
  go_loop [7] (fun i => ∃ j : Nat, j ≤ m ∧ i = .int .i64 j ∧ (bs.take j).all id = true) (fun i => m - (intOf i).toNat)
  case atStart => exact ⟨0, Nat.zero_le _, rfl, rfl⟩
  case round =>
    obtain ⟨j, hj, rfl, hall⟩ := hrel
    by_cases hlt : j < m
    · have hcj := HC.out j hlt
      have HN := Lib.hid (fun h => all_getD bs j (by rw [HM.out]; exact hlt) h)
      have HT := Lib.hid (fun h => take_all bs j (by rw [HM.out]; exact hlt) hall h)
      obtain ⟨b, hb⟩ : ∃ b, bs.getD j false = b := ⟨_, rfl⟩
      rw [hb] at hcj
      have HB := Lib.hid hb
      clear hb hall
      cases b with
      | false =>
        have HF := Lib.hid (HN.out HB.out)
        go_wp2_with fail
        go_ret
        exact ⟨by rw [HF.out]; rfl, rfl⟩
      | true =>
        have HR := Lib.hid (HT.out HB.out)
        go_wp2_with fail
        go_round
        case rel => exact ⟨j + 1, by omega, by go_num, HR.out⟩
        case measure => simp [intOf]; omega
    · obtain rfl : j = m := by omega
      have HA : Hid (bs.all id = true) := by
        have h := hall
        rwa [List.take_of_length_le (by rw [HM.out]; exact Nat.le_refl _)] at h
      clear hall
      go_wp2_with fail
      go_ret
      exact ⟨by rw [HA.out]; rfl, rfl⟩


end Go.Proofs.YtidakannaephoaaDoor
