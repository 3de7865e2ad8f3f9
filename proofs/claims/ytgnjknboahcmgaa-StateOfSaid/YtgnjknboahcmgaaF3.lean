/- Texts of one claim, merged: SnR3, SnR4, SnR4b, StC1, StC2, BitsP, RcC, StC3. -/
import Derived.Test.YtgnjknboahcmgaaF2
import Derived.Deep.RegionLaw
import Derived.Deep.AppendLies
import Derived.Test.YtgnjknboahcmgaaF1
import Derived.StillTailTactics

/- The reference's Put. -/
namespace Go.Proofs.Ytgnjknboahcmgaa
set_option maxRecDepth 100000
open Go.RowKit

/-- what Put answers -/
def PutS (b l y n s r : Int) (x : Sn) (w : World) (e : Ending) (w' : World) : Prop :=
  (¬ OkG b l y n s r → e = .returned (.tuple #[.slice none 0 0, .int .i64 60]))
  ∧ (OkG b l y n s r → ¬ FitS b n x → e = .returned (.tuple #[.slice none 0 0, .int .i64 130]))
  ∧ (OkG b l y n s r → FitS b n x → ∃ v, e = .returned (.tuple #[v, .int .i64 0]) ∧ w'.ownsRow w.heap.size 9 1 v (snapsG b y n).toNat (strV (pgsN x (snapsG b y n).toNat y.toNat)))
  ∧ Below w.heap.size w w'

theorem size_state : (Try.prog.info? 32).map (·.size) = some 4 := by kernel_rfl
theorem snaps_nat (M N Y : Nat) (_ : 1 ≤ Y) : snapsG (M : Int) (Y : Int) (N : Int) = (((6 * N + 10 * M + (Y - 1)) / Y : Nat) : Int) := by
  unfold snapsG
  rw [Int.natCast_ediv]
  congr 1
  omega
theorem mod_int (A B Y : Nat) : ((A : Int) + (B : Int)) % (Y : Int) = (((A + B) % Y : Nat) : Int) := by
  rw [Int.natCast_emod, Int.natCast_add]
theorem snaps_mul {T Y : Nat} (hY : 1 ≤ Y) : T ≤ (T + (Y - 1)) / Y * Y ∧ (T + (Y - 1)) / Y * Y < T + Y := by
  have h1 := Nat.div_mul_le_self (T + (Y - 1)) Y
  have h2 := Nat.lt_div_mul_add (a := T + (Y - 1)) (b := Y) (by omega)
  omega
theorem mod_in {L K Y : Nat} (h : L ≤ K * Y) (hm : L % Y ≠ 0) : L + 1 ≤ K * Y := by
  rcases Nat.lt_or_ge L (K * Y) with h1 | h1
  · exact h1
  · exact absurd (by rw [Nat.le_antisymm h h1]; exact Nat.mul_mod_left K Y) hm
theorem mod_end {L T K Y : Nat} (h : L ≤ K * Y) (hT : T ≤ L) (hK : K * Y < T + Y) (hm : L % Y = 0) (_ : 1 ≤ Y) : L = K * Y := by
  obtain ⟨q, hq⟩ := Nat.dvd_of_mod_eq_zero hm
  subst hq
  rw [Nat.mul_comm Y q] at *
  rcases Nat.lt_or_ge q K with h1 | h1
  · have h2 : (q + 1) * Y ≤ K * Y := Nat.mul_le_mul_right Y h1
    rw [Nat.add_mul] at h2; omega
  · have h2 : K * Y ≤ q * Y := Nat.mul_le_mul_right Y h1
    omega
theorem p2_24 : p2 (8 * 3) = 16777216 := by decide
theorem p2_32 : p2 (8 * 4) = 4294967296 := by decide
theorem p2_48 : p2 (8 * 6) = 281474976710656 := by decide

/-- the cells that a round over the blocks reads -/
def RndC (w2 : World) (B : Nat) (vc vs vt : Value) (pc ps pt : Addr) (ci si ti : Int) (w' : World) : Prop :=
  (w'.cell? ⟨B, 1, none⟩ = some vc ∧ w'.cell? ⟨B, 2, none⟩ = some vs ∧ w'.cell? ⟨B, 3, none⟩ = some vt) ∧ (w'.cell? pc = some (.int .i64 ci) ∧ w'.cell? ps = some (.int .i64 si) ∧ w'.cell? pt = some (.int .i64 ti)) ∧ Below w2.heap.size w2 w'
theorem RndC.stay (w2 : World) (B : Nat) (vc vs vt : Value) (pc ps pt : Addr) (ci si ti : Int) : Stay (RndC w2 B vc vs vt pc ps pt ci si ti) :=
  ((Stay.cell _ _).and ((Stay.cell _ _).and (Stay.cell _ _))).and (((Stay.cell _ _).and ((Stay.cell _ _).and (Stay.cell _ _))).and (Stay.below _))

set_option maxHeartbeats 4000000 in
theorem rsn_put (w : World) (b l y n s r : Int) (A : Array Value) (x : Sn) (hA : SnAt w A x) :
    Calls Try.prog 21 #[.agg (gv b l y n s r), .agg A] w (PutS b l y n s r x w) := by
  obtain ⟨w2, hw2⟩ : ∃ w2, (w.alloc (.cells (gv b l y n s r) 23)).alloc (.cells A 32) = w2 := ⟨_, rfl⟩
  have hsw : SnW w b l y n s r A w2 := by rw [← hw2]; exact SnW.new _ _ _ _ _ _ _ _
  have HFI : Hid (∀ w3, Below w2.heap.size w2 w3 → Calls Try.prog 37 #[.agg (gv b l y n s r), .agg A] w3 fun e w' => e = .returned (.bool (fitsB b l y n s r x)) ∧ Below w3.heap.size w3 w') := fun w3 hb3 => rsn_fits w3 b l y n s r A x ((hA.below hsw.2).below hb3)
  obtain ⟨vf, vc, vs, vt, rfl, h1, h2, h3, h4⟩ := hA
  have HSW := Lib.hid hsw
  have HW2 := Lib.hid hw2
  have hbw : ∀ w3, Below w2.heap.size w2 w3 → Below w.heap.size w w3 := fun w3 hb3 => hsw.2.trans (hb3.mono hsw.2.size)
  have HBW := Lib.hid hbw
  have four_one : (#[vf, vc, vs, vt] : Array Value).size = 4 := rfl
  clear hbw hw2 hsw
  rcases chk_eq0 b l y n s r with ⟨hck, hok⟩ | ⟨hck, hok⟩
  · have HK := Lib.hid hck
    have HOK := Lib.hid hok
    by_cases hfit : FitS b n x
    · have HFT := Lib.hid hfit
      have hfb : fitsB b l y n s r x = true := decide_eq_true ⟨hok, hfit⟩
      have HFB := Lib.hid hfb
      have H1 := Lib.hid h1
      have H2 := Lib.hid h2
      have H3 := Lib.hid h3
      have H4 := Lib.hid h4
      clear hck hok hfit hfb h1 h2 h3 h4
      go_enter Try.func21, Try.ntmps21
      go_wp2_with (first
        | (change wpList _ _ _ _ _ ((w.alloc (.cells (gv b l y n s r) 23)).alloc (.cells #[vf, vc, vs, vt] 32)); rw [HW2.out]; refine wpList_load_row rfl 23 (.tmp 2) rfl w.heap.size rfl 23 (gv b l y n s r) (0, 0) _ HSW.out.1.2.1 Try.underlying23 rfl size_geo ?_))
      refine (rge_check b l y n s r w2).mono ?_
      rintro e w3 ⟨rfl, hb3⟩
      rw [HK.out]
      have HB3 := Lib.hid hb3
      clear hb3
      go_wp2_with (first
        | (refine wpList_load_row rfl 23 (.tmp 2) rfl w.heap.size rfl 23 (gv b l y n s r) (0, 0) _ (HSW.out.call HB3.out).1.2.1 Try.underlying23 rfl size_geo ?_)
        | (refine wpList_load_row rfl 32 (.tmp 3) rfl (w.heap.size + 1) rfl 32 #[vf, vc, vs, vt] (0, 0) _ (HSW.out.call HB3.out).1.2.2 Try.underlying32 rfl size_state ?_))
      refine (HFI.out w3 HB3.out).mono ?_
      rintro e w4 ⟨rfl, hb4⟩
      rw [HFB.out]
      have HB4 := Lib.hid (HB3.out.trans (hb4.mono HB3.out.size))
      clear hb4 HB3
      go_wp2_with fail
      obtain ⟨N, hN⟩ : ∃ N : Nat, n = N := ⟨n.toNat, by have h := HOK.out.1; unfold PreG at h; omega⟩
      obtain ⟨M, hM⟩ : ∃ M : Nat, b = M := ⟨b.toNat, by have h := HOK.out.1; unfold PreG at h; omega⟩
      obtain ⟨Y, hY⟩ : ∃ Y : Nat, y = Y := ⟨y.toNat, by have h := HOK.out.1; unfold PreG at h; omega⟩
      subst hN hM hY
      have hbd : N ≤ 4096 ∧ M ≤ 64 ∧ 16 ≤ Y ∧ Y ≤ 256 := by have h := HOK.out.1; unfold PreG at h; omega
      obtain ⟨⟨l1, m1⟩, ⟨l2, m2⟩, ⟨l3, m3⟩, ⟨l4, m4⟩⟩ := HFT.out
      have LN : Hid (x.f.length = N ∧ x.c.length = M ∧ x.s.length = M ∧ x.t.length = M) := ⟨by omega, by omega, by omega, by omega⟩
      have HBD := Lib.hid hbd
      have M1 := Lib.hid m1
      have M2 := Lib.hid m2
      have M3 := Lib.hid m3
      have M4 := Lib.hid m4
      clear hbd l1 l2 l3 l4 m1 m2 m3 m4
      obtain ⟨of, cf, rfl, kf, ef⟩ := H1.out
      obtain ⟨oc, cc, rfl, kc, ec⟩ := H2.out
      obtain ⟨os, cs, rfl, ks, es⟩ := H3.out
      obtain ⟨ot, ct, rfl, kt, et⟩ := H4.out
      clear H1 H2 H3 H4
      rw [LN.out.1, LN.out.2.1, LN.out.2.2.1, LN.out.2.2.2] at HSW
      have EF := Lib.hid ef
      have EC := Lib.hid ec
      have ES := Lib.hid es
      have ET := Lib.hid et
      clear ef ec es et kf kc ks kt HFI HW2 HFB HK four_one
      go_loopw [6, 7] (fun sv iv wr => ∃ i : Nat, i ≤ N ∧ iv = .int .i64 i ∧ sv = .string (accF x.f i) ∧ Hid (Below w2.heap.size w2 wr)) (fun _ iv _ => N + 1 - (intOf iv).toNat)
      case atStart => exact ⟨0, Nat.zero_le _, rfl, rfl, HB4.out⟩
      case round =>
        obtain ⟨i, hi, rfl, rfl, HB5⟩ := hrel
        obtain ⟨f0, f1, f2, f3⟩ := (HSW.out.call HB5.out).four
        by_cases hlt : i < N
        · have hltz : (i : Int) < (N : Int) := by omega
          have hil : i < x.f.length := by have := LN.out.1; omega
          obtain ⟨gb, go, rfl, hg, hrow⟩ := EF.out (by intro h0; rw [h0] at hil; exact absurd hil (Nat.not_lt_zero _))
          have r1 := hrow i hil
          have c1 := ((HSW.out.2.trans (HB5.out.mono HSW.out.2.size)).cell (p := ⟨gb, go + i, none⟩) (cell_lt r1)).trans r1
          have hv := M1.out _ (List.getElem_mem hil)
          have hst := accF_step x.f i hil
          have hsz := accF_size x.f i
          obtain ⟨v, hve⟩ : ∃ v, x.f[i] = v := ⟨_, rfl⟩
          rw [hve] at c1 hv hst
          have HV := Lib.hid hv
          have HST := Lib.hid hst
          have hno : ¬ 9223372036854775807 < (accF x.f i).size + (leS v 6).size := by rw [hsz, leS_size]; have := HBD.out; omega
          have HNO := Lib.hid hno
          clear hrow r1 hv hst hve hil hsz hno
          go_wp2_with fail
          refine (num_stay (Stay.below w2) v 6 wr HB5.out (by decide) (by decide) HV.out.1 (by rw [p2_48]; have := HV.out.2; omega)).mono ?_
          rintro e w6 ⟨rfl, hb6⟩
          have HB6 := Lib.hid hb6
          clear hb6 HB5
          have hno := HNO.out
          have h4096 := HBD.out.1
          go_wp2_with fail
          refine ⟨⟨i + 1, by omega, by go_num, congrArg Value.string HST.out.symm, HB6⟩, ?_⟩
          simp [intOf]; omega
        · obtain rfl : i = N := by omega
          have hltz : ¬ (i : Int) < (i : Int) := by omega
          have hall : accF x.f i = accK x 0 := by have h := accF_all x; rw [LN.out.1] at h; exact h
          rw [hall]
          clear hall hlt EF
          go_wp2_with fail
          obtain ⟨w7, hw7⟩ : ∃ w7, wr = w7 := ⟨_, rfl⟩
          have HB7 : Hid (Below w2.heap.size w2 w7) := by rw [← hw7]; exact HB5
          subst hw7
          clear f0 f1 f2 f3 hltz hi HB5 HB4
          go_loopw [6, 8] (fun sv jv wr => ∃ j : Nat, j ≤ M ∧ jv = .int .i64 j ∧ sv = .string (accK x j) ∧ Hid (Below w2.heap.size w2 wr)) (fun _ jv _ => M + 1 - (intOf jv).toNat)
          case atStart => exact ⟨0, Nat.zero_le _, rfl, rfl, HB7.out⟩
          case round =>
            obtain ⟨j, hj, rfl, rfl, HB8⟩ := hrel
            obtain ⟨f0, f1, f2, f3⟩ := (HSW.out.call HB8.out).four
            by_cases hlt : j < M
            · have hltz : (j : Int) < (M : Int) := by omega
              have j1 : j < x.c.length := by have := LN.out.2.1; omega
              have j2 : j < x.s.length := by have := LN.out.2.2.1; omega
              have j3 : j < x.t.length := by have := LN.out.2.2.2; omega
              obtain ⟨gc, pc, rfl, hg1, hrow1⟩ := EC.out (by intro h0; rw [h0] at j1; exact absurd j1 (Nat.not_lt_zero _))
              obtain ⟨gs, ps, rfl, hg2, hrow2⟩ := ES.out (by intro h0; rw [h0] at j2; exact absurd j2 (Nat.not_lt_zero _))
              obtain ⟨gt, pt, rfl, hg3, hrow3⟩ := ET.out (by intro h0; rw [h0] at j3; exact absurd j3 (Nat.not_lt_zero _))
              have r1 := hrow1 j j1
              have r2 := hrow2 j j2
              have r3 := hrow3 j j3
              have hbb := HSW.out.2.trans (HB8.out.mono HSW.out.2.size)
              have c1 := (hbb.cell (p := ⟨gc, pc + j, none⟩) (cell_lt r1)).trans r1
              have c2 := (hbb.cell (p := ⟨gs, ps + j, none⟩) (cell_lt r2)).trans r2
              have c3 := (hbb.cell (p := ⟨gt, pt + j, none⟩) (cell_lt r3)).trans r3
              have v1 := M2.out _ (List.getElem_mem j1)
              have v2 := M3.out _ (List.getElem_mem j2)
              have v3 := M4.out _ (List.getElem_mem j3)
              have hst := accK_step x j j1 j2 j3
              have hsz := accK_size x j
              obtain ⟨ci, e1⟩ : ∃ v, x.c[j] = v := ⟨_, rfl⟩
              obtain ⟨si, e2⟩ : ∃ v, x.s[j] = v := ⟨_, rfl⟩
              obtain ⟨ti, e3⟩ : ∃ v, x.t[j] = v := ⟨_, rfl⟩
              rw [e1] at c1 v1
              rw [e2] at c2 v2
              rw [e3] at c3 v3
              rw [e1, e2, e3] at hst
              have V1 := Lib.hid v1
              have V2 := Lib.hid v2
              have V3 := Lib.hid v3
              have HST := Lib.hid hst
              have hq1 : ¬ 9223372036854775807 < (accK x j).size + (leS ci 4).size := by rw [hsz, leS_size]; have := HBD.out; have := LN.out; omega
              have hq2 : ¬ 9223372036854775807 < (accK x j ++ leS ci 4).size + (leS si 3).size := by rw [ByteArray.size_append, hsz, leS_size, leS_size]; have := HBD.out; have := LN.out; omega
              have hq3 : ¬ 9223372036854775807 < ((accK x j ++ leS ci 4) ++ leS si 3).size + (leS ti 3).size := by rw [ByteArray.size_append, ByteArray.size_append, hsz, leS_size, leS_size, leS_size]; have := HBD.out; have := LN.out; omega
              have hp2 : ¬ 9223372036854775807 < (accK x j).size + (leS ci 4).size + (leS si 3).size := by rw [hsz, leS_size, leS_size]; have := HBD.out; have := LN.out; omega
              have hp3 : ¬ 9223372036854775807 < (accK x j).size + (leS ci 4).size + (leS si 3).size + (leS ti 3).size := by rw [hsz, leS_size, leS_size, leS_size]; have := HBD.out; have := LN.out; omega
              have i1 : (0 : Int) ≤ (j : Int) := by omega
              have HSY : Hid (RndC w2 (w.heap.size + 1) (.slice (some ⟨gc, pc, none⟩) M cc) (.slice (some ⟨gs, ps, none⟩) M cs) (.slice (some ⟨gt, pt, none⟩) M ct) ⟨gc, pc + j, none⟩ ⟨gs, ps + j, none⟩ ⟨gt, pt + j, none⟩ ci si ti wr) := ⟨⟨f1, f2, f3⟩, ⟨c1, c2, c3⟩, HB8.out⟩
              clear hrow1 hrow2 hrow3 r1 r2 r3 hbb v1 v2 v3 hst hsz e1 e2 e3 j1 j2 j3 hg1 hg2 hg3 f0
              go_upto_region 13 with fail
              have h64 := HBD.out.2.1
              go_region_held3 (fun w' => w'.cell? ⟨w.heap.size + 1, 1, none⟩ = some (.slice (some ⟨gc, pc, none⟩) M cc) ∧ w'.cell? ⟨w.heap.size + 1, 2, none⟩ = some (.slice (some ⟨gs, ps, none⟩) M cs) ∧ w'.cell? ⟨w.heap.size + 1, 3, none⟩ = some (.slice (some ⟨gt, pt, none⟩) M ct) ∧ w'.cell? ⟨gc, pc + j, none⟩ = some (.int .i64 ci) ∧ w'.cell? ⟨gs, ps + j, none⟩ = some (.int .i64 si) ∧ w'.cell? ⟨gt, pt + j, none⟩ = some (.int .i64 ti) ∧ Below w2.heap.size w2 w') (first | (go_keep; done) | (refine ⟨?_, ?_, ?_, ?_, ?_, ?_, ?_⟩ <;> first | assumption | (apply Below.drew; first | exact HB8.out | assumption)))
                (first
                  | (go_at_call_of 38 (Value.int .i64 ci); refine (num_stay (RndC.stay w2 (w.heap.size + 1) (.slice (some ⟨gc, pc, none⟩) M cc) (.slice (some ⟨gs, ps, none⟩) M cs) (.slice (some ⟨gt, pt, none⟩) M ct) ⟨gc, pc + j, none⟩ ⟨gs, ps + j, none⟩ ⟨gt, pt + j, none⟩ ci si ti) ci 4 _ ⟨⟨?_, ?_, ?_⟩, ⟨?_, ?_, ?_⟩, ?_⟩ (by decide) (by decide) V1.out.1 (by rw [p2_32]; have := V1.out.2; omega)).mono ?_; simp [*]; simp [*]; simp [*]; simp [*]; simp [*]; simp [*]; (first | assumption | (apply Below.drew; first | exact HB8.out | assumption)); rintro e w' ⟨rfl, ⟨_, _, _⟩, ⟨_, _, _⟩, _⟩)
                  | (go_at_call_of 38 (Value.int .i64 si); refine (num_stay (RndC.stay w2 (w.heap.size + 1) (.slice (some ⟨gc, pc, none⟩) M cc) (.slice (some ⟨gs, ps, none⟩) M cs) (.slice (some ⟨gt, pt, none⟩) M ct) ⟨gc, pc + j, none⟩ ⟨gs, ps + j, none⟩ ⟨gt, pt + j, none⟩ ci si ti) si 3 _ ⟨⟨?_, ?_, ?_⟩, ⟨?_, ?_, ?_⟩, ?_⟩ (by decide) (by decide) V2.out.1 (by rw [p2_24]; have := V2.out.2; omega)).mono ?_; simp [*]; simp [*]; simp [*]; simp [*]; simp [*]; simp [*]; (first | assumption | (apply Below.drew; first | exact HB8.out | assumption)); rintro e w' ⟨rfl, ⟨_, _, _⟩, ⟨_, _, _⟩, _⟩)
                  | (go_at_call_of 38 (Value.int .i64 ti); refine (num_stay (RndC.stay w2 (w.heap.size + 1) (.slice (some ⟨gc, pc, none⟩) M cc) (.slice (some ⟨gs, ps, none⟩) M cs) (.slice (some ⟨gt, pt, none⟩) M ct) ⟨gc, pc + j, none⟩ ⟨gs, ps + j, none⟩ ⟨gt, pt + j, none⟩ ci si ti) ti 3 _ ⟨⟨?_, ?_, ?_⟩, ⟨?_, ?_, ?_⟩, ?_⟩ (by decide) (by decide) V3.out.1 (by rw [p2_24]; have := V3.out.2; omega)).mono ?_; simp [*]; simp [*]; simp [*]; simp [*]; simp [*]; simp [*]; (first | assumption | (apply Below.drew; first | exact HB8.out | assumption)); rintro e w' ⟨rfl, ⟨_, _, _⟩, ⟨_, _, _⟩, _⟩))
              have HB9 : Hid (Below w2.heap.size w2 w') := by assumption
              clear hq1 hq2 hq3 hp2 hp3
              go_wp2_with fail
              refine ⟨⟨j + 1, by omega, by go_num, congrArg Value.string HST.out.symm, HB9⟩, ?_⟩
              simp [intOf]; omega
            · obtain rfl : j = M := by omega
              have hltz : ¬ (j : Int) < (j : Int) := by omega
              obtain ⟨st, hst⟩ : ∃ st, accK x j = st := ⟨_, rfl⟩
              have hss : st.size = 6 * i + 10 * j := by rw [← hst, accK_size, LN.out.1]
              have HSS := Lib.hid hss
              have HST := Lib.hid hst
              rw [hst]
              have hY16 := HBD.out.2.2.1
              obtain ⟨K, hK⟩ : ∃ K, (6 * i + 10 * j + (Y - 1)) / Y = K := ⟨_, rfl⟩
              have hkm := snaps_mul (T := 6 * i + 10 * j) (Y := Y) (by omega)
              have hks := snaps_nat j i Y (by omega)
              rw [hK] at hkm hks
              have HKM := Lib.hid hkm
              have HKS := Lib.hid hks
              clear hK hkm hks hY16
              clear hst hss hlt EC ES ET f0 hj HB7
              go_wp2_with fail
              clear f1 f2 f3 hltz
              obtain ⟨w9, hw9⟩ : ∃ w9, wr = w9 := ⟨_, rfl⟩
              have HB9 : Hid (Below w2.heap.size w2 w9) := by rw [← hw9]; exact HB8
              subst hw9
              clear HB8
              go_loopw [6] (fun sv wr => ∃ t : Nat, st.size + t ≤ K * Y ∧ sv = .string (padT st t) ∧ Hid (Below w2.heap.size w2 wr)) (fun sv _ => K * Y - szV sv)
              case atStart => exact ⟨0, by rw [HSS.out]; have := HKM.out; omega, by rw [padT_zero], HB9.out⟩
              case round =>
                obtain ⟨t, ht, rfl, HB10⟩ := hrel
                obtain ⟨g0, g2, g3⟩ := (HSW.out.call HB10.out).geo
                have hps : (padT st t).size = st.size + t := padT_size _ _
                by_cases hmod : (st.size + t) % Y = 0
                · have hmb : (((st.size : Int) + (t : Int)) % (Y : Int) != 0) = false := by rw [mod_int, hmod]; rfl
                  have hend : st.size + t = K * Y := mod_end ht (Nat.le_add_right _ _) (by rw [HSS.out]; exact HKM.out.2) hmod (by have := HBD.out; omega)
                  have hY1 : (Y : Int) ≠ 0 := by have := HBD.out; omega
                  have htx : padT st t = textN x K Y := by
                    unfold textN; rw [LN.out.1, LN.out.2.1, HST.out]; congr 1; have := HSS.out; omega
                  rw [hend] at hps
                  rw [htx] at hps ⊢
                  have hq : st.size + t ≤ 9223372036854775807 := by have := HKM.out; have := HBD.out; omega
                  clear hmod htx
                  go_wp2_with fail
                  obtain ⟨text, htext⟩ : ∃ text, textN x K Y = text := ⟨_, rfl⟩
                  obtain ⟨T, hT⟩ : ∃ T, K * Y = T := ⟨_, rfl⟩
                  rw [htext] at hps ⊢
                  rw [hT] at hps
                  have HTX := Lib.hid htext
                  have HT := Lib.hid hT
                  have HT2 : Hid (T ≤ 100000) := by show T ≤ 100000; have := HKM.out; have := HBD.out; omega
                  obtain ⟨wa, hwa⟩ : ∃ wa, wr = wa := ⟨_, rfl⟩
                  have HB11 : Hid (Below w2.heap.size w2 wa) := by rw [← hwa]; exact HB10
                  subst hwa
                  clear HB10 htext hT hend hmb hY1 g0 g2 g3 HB9 hq ht
                  go_loopw [9, 10] (fun ov qv wr => ∃ p q : Nat, p ≤ K ∧ qv = .int .i64 q ∧ Hid (q = p * Y) ∧ Hid (wr.ownsRow (w.heap.size + 2) 9 1 ov p (strV ((List.range p).map (pageN x K Y)))) ∧ Hid (SnW w j l Y i s r #[.slice of i cf, .slice oc j cc, .slice os j cs, .slice ot j ct] wr)) (fun _ qv _ => T + 1 - (intOf qv).toNat)
                  case atStart => exact ⟨0, 0, Nat.zero_le _, rfl, (Nat.zero_mul _).symm, ⟨rfl, Or.inl ⟨rfl, rfl⟩⟩, HSW.out.call HB11.out⟩
                  case round =>
                    obtain ⟨p, q, hp, rfl, HQ, HOW, HSR⟩ := hrel
                    obtain ⟨g0, g2, g3⟩ := HSR.out.geo
                    have hyb := HBD.out.2.2
                    by_cases hlt : p < K
                    · have hqT : q + Y ≤ T := by
                        have h1 := HQ.out; have h2 := HT.out
                        have h3 : (p + 1) * Y ≤ K * Y := Nat.mul_le_mul_right Y hlt
                        rw [Nat.add_mul] at h3; omega
                      have hqz : (q : Int) + (Y : Int) ≤ (T : Int) := by omega
                      have ht2 := HT2.out
                      have hto : ((q : Int) + (Y : Int)).toNat = q + Y := by omega
                      obtain ⟨pg, hpg⟩ : ∃ pg, text.extract q (q + Y) = pg := ⟨_, rfl⟩
                      have HPG : Hid (pg = pageN x K Y p) := by
                        show pg = _
                        rw [← hpg, ← HTX.out, HQ.out]; exact page_ext _ _ _ _
                      obtain ⟨i0, hi0, hz0, hz1, hz2⟩ := info_partsX infoStr
                      have hown := HOW.out
                      have hcn := cells_newX wr #[.string pg] 9
                      have HCN := Lib.hid hcn
                      clear hcn
                      go_wp2_with (first
                        | (at_builtin; refine wpList_append_own _ rfl _ _ 49 rfl (w.heap.size + 2) 9 i0 (.string ByteArray.empty) 1 16 Try.underlying49 hi0 hz0 hz1 hz2 rfl (by decide) _ _ _ rfl (hown.alloc _) ⟨wr.heap.size, 0, none⟩ 1 1 [.string pg] rfl rfl ?c1 ?c2 ?c3 ?c4 ?c5 ?_))
                      case c2 => rfl
                      case c3 => unfold maxLen; have := HT2.out; have := HKM.out; have h9 := HT.out; have h6 : K * 1 ≤ K * Y := Nat.mul_le_mul_left K (by omega); omega
                      case c4 => have := HT2.out; have h9 := HT.out; have h6 : K * 1 ≤ K * Y := Nat.mul_le_mul_left K (by omega); omega
                      case c5 => have := HSR.out.1.1; omega
                      intro v' w5 hown1 hgrow1 _
                      have hbb := own_belowX hown HSR.out.1.1 hgrow1
                      have HN2 : Hid (w5.ownsRow (w.heap.size + 2) 9 1 v' (p + 1) (strV ((List.range (p + 1)).map (pageN x K Y)))) := by
                        rw [strV_snoc, ← HPG.out]; exact hown1
                      have hsr := HSR.out.far hbb
                      have HBN := Lib.hid hsr
                      clear hown hown1 hgrow1 hbb HCN hi0 hz0 hz1 hz2 hpg hto g0 g2 g3
                      obtain ⟨g0, g2, g3⟩ := hsr.geo
                      clear hsr
                      go_wp2_with fail
                      go_roundw
                      case rel => exact ⟨p + 1, q + Y, hlt, by go_num, by show q + Y = _; rw [Nat.add_mul, Nat.one_mul, HQ.out], HN2, HBN⟩
                      case measure => simp [intOf]; omega
                    · have hqT : q = T := by
                        have h1 := HQ.out; have h2 := HT.out
                        obtain rfl : p = K := by omega
                        omega
                      subst hqT
                      have hqz : ¬ (q : Int) + (Y : Int) ≤ (q : Int) := by omega
                      have ht2 := HT2.out
                      obtain rfl : p = K := by omega
                      clear hlt
                      go_wp2_with fail
                      go_ret2
                      refine ⟨fun h => absurd HOK.out h, fun _ h => absurd HFT.out h, fun _ _ => ⟨u9, rfl, ?_⟩, HSR.out.2⟩
                      have h5 := ownsRow_monoS HOW.out (Nat.le_add_right w.heap.size 2)
                      rw [HKS.out]
                      exact h5
                · have HIN := Lib.hid (mod_in ht hmod)
                  have hmb : (((st.size : Int) + (t : Int)) % (Y : Int) != 0) = true := by rw [mod_int, bne_iff_ne]; omega
                  have hY1 : (Y : Int) ≠ 0 := by have := HBD.out; omega
                  have hcv := conv_one 0 wr
                  have hbn : Below w2.heap.size w2 (wr.alloc (.cells #[.int .u8 0] 5)) := HB10.out.trans ((Below.refl _ _).alloc HB10.out.size _)
                  have HBN := Lib.hid hbn
                  have hno : ¬ 9223372036854775807 < (padT st t).size + (⟨#[0]⟩ : ByteArray).size := by rw [padT_size]; show ¬ _ < _ + 1; have := HKM.out; have := HBD.out; omega
                  clear hbn hmod HB10
                  go_wp2_with fail
                  refine ⟨⟨t + 1, by have := HIN.out; omega, by rw [padT_step], HBN⟩, ?_⟩
                  show K * Y - (padT st t ++ ⟨#[0]⟩).size < K * Y - (padT st t).size
                  rw [← padT_step, padT_size, padT_size]; have := HIN.out; omega
    · have HFT := Lib.hid hfit
      have hfb : fitsB b l y n s r x = false := decide_eq_false fun h => hfit h.2
      have HFB := Lib.hid hfb
      clear hck hok hfit hfb h1 h2 h3 h4
      go_enter Try.func21, Try.ntmps21
      go_wp2_with (first
        | (change wpList _ _ _ _ _ ((w.alloc (.cells (gv b l y n s r) 23)).alloc (.cells #[vf, vc, vs, vt] 32)); rw [HW2.out]; refine wpList_load_row rfl 23 (.tmp 2) rfl w.heap.size rfl 23 (gv b l y n s r) (0, 0) _ HSW.out.1.2.1 Try.underlying23 rfl size_geo ?_))
      refine (rge_check b l y n s r w2).mono ?_
      rintro e w3 ⟨rfl, hb3⟩
      rw [HK.out]
      have HB3 := Lib.hid hb3
      clear hb3
      go_wp2_with (first
        | (refine wpList_load_row rfl 23 (.tmp 2) rfl w.heap.size rfl 23 (gv b l y n s r) (0, 0) _ (HSW.out.call HB3.out).1.2.1 Try.underlying23 rfl size_geo ?_)
        | (refine wpList_load_row rfl 32 (.tmp 3) rfl (w.heap.size + 1) rfl 32 #[vf, vc, vs, vt] (0, 0) _ (HSW.out.call HB3.out).1.2.2 Try.underlying32 rfl size_state ?_))
      refine (HFI.out w3 HB3.out).mono ?_
      rintro e w4 ⟨rfl, hb4⟩
      rw [HFB.out]
      have HB4 := Lib.hid (HB3.out.trans (hb4.mono HB3.out.size))
      clear hb4 HB3
      go_wp2_with fail
      go_ret2
      exact ⟨fun h => absurd HOK.out h, fun _ _ => rfl, fun _ h => absurd h HFT.out, HBW.out _ HB4.out⟩
  · have HK := Lib.hid hck
    have HOK := Lib.hid hok
    clear hck hok h1 h2 h3 h4
    go_enter Try.func21, Try.ntmps21
    go_wp2_with (first
      | (change wpList _ _ _ _ _ ((w.alloc (.cells (gv b l y n s r) 23)).alloc (.cells #[vf, vc, vs, vt] 32)); rw [HW2.out]; refine wpList_load_row rfl 23 (.tmp 2) rfl w.heap.size rfl 23 (gv b l y n s r) (0, 0) _ HSW.out.1.2.1 Try.underlying23 rfl size_geo ?_))
    refine (rge_check b l y n s r w2).mono ?_
    rintro e w3 ⟨rfl, hb3⟩
    rw [HK.out]
    have HB3 := Lib.hid hb3
    clear hb3
    go_wp2_with fail
    go_ret2
    exact ⟨fun _ => rfl, fun h => absurd h HOK.out, fun h => absurd h HOK.out, HBW.out _ HB3.out⟩

end Go.Proofs.Ytgnjknboahcmgaa

/- The reference's Take: the geometry, and the pages' text. -/
namespace Go.Proofs.Ytgnjknboahcmgaa
set_option maxRecDepth 100000
open Go.RowKit

def nil4 : Array Value := #[.slice none 0 0, .slice none 0 0, .slice none 0 0, .slice none 0 0]
theorem infoInt : (Try.prog.info? 3).map (fun i => (i.zero, i.size, i.bytes)) = some (some (.int .i64 0), 1, 8) := by kernel_rfl
/-- numbers as values -/
def intV (l : List Int) : List Value := l.map (Value.int .i64)
theorem intV_snoc (f : Nat → Int) (p : Nat) : intV ((List.range (p + 1)).map f) = intV ((List.range p).map f) ++ [.int .i64 (f p)] := by
  rw [List.range_succ, List.map_append]; unfold intV; rw [List.map_append]; rfl

/-- nothing of the one lies where the other does -/
def Apart (u v : Value) : Prop := ∀ g, u.ownBlock = some g → v.ownBlock ≠ some g
/-- four rows of numbers, of the call's own, no two in one block -/
def FourR (w : World) (B : Nat) (V : List Value) (L : List (List Int)) : Prop :=
  (∀ k, k < 4 → w.ownsRow B 3 1 (V.getD k undef) (L.getD k []).length (intV (L.getD k []))) ∧ ∀ j k, j < 4 → k < 4 → j ≠ k → Apart (V.getD j undef) (V.getD k undef)
theorem getD_setS {α : Type} (V : List α) (k j : Nat) (v d : α) (hk : k < V.length) : (V.set k v).getD j d = if j = k then v else V.getD j d := by
  by_cases h : j = k
  · subst h; simp [List.getD_eq_getElem?_getD, hk]
  · simp [List.getD_eq_getElem?_getD, List.getElem?_set_ne (Ne.symm h), h]
theorem own_other {w w' : World} {B z n : Nat} {u : Value} {xs : List Value} {e : TypeId} {r : Option Nat} (hu : w.ownsRow B e z u n xs) (o : Obj) (hg : (w.alloc o).grownBy w' r) (ha : ∀ g, u.ownBlock = some g → r ≠ some g) : w'.ownsRow B e z u n xs := by
  refine ⟨hu.1, ?_⟩
  have hlt := hu.lt
  rcases hu.2 with ⟨rfl, h0⟩ | ⟨g, cap, cur, rfl, hbg, hgc, h1⟩
  · exact .inl ⟨rfl, h0⟩
  · have h2 := (hlt g rfl).2
    exact .inr ⟨g, cap, cur, rfl, hbg, (hg.block g (by simp; omega) (Ne.symm (ha g rfl))).trans ((Below.heap_alloc w o g h2).trans hgc), h1⟩
theorem FourR.grow {w w' : World} {B : Nat} {V : List Value} {L : List (List Int)} (h : FourR w B V L) (hV : V.length = 4) (hL : L.length = 4) {k : Nat} (hk : k < 4) {o : Obj} {x : Int} {n g cap : Nat} (hn : (L.getD k []).length = n)
    (hown : w'.ownsRow B 3 1 (.slice (some ⟨g, 0, none⟩) (n + 1) cap) (n + 1) (intV (L.getD k []) ++ [.int .i64 x])) (hg : (w.alloc o).grownBy w' (V.getD k undef).ownBlock) (hat : (V.getD k undef).ownBlock = some g ∨ g = w.heap.size + 1) :
    FourR w' B (V.set k (.slice (some ⟨g, 0, none⟩) (n + 1) cap)) (L.set k (L.getD k [] ++ [x])) := by
  refine ⟨fun j hj => ?_, fun i j hi hj hne => ?_⟩
  · rw [getD_setS _ _ _ _ _ (by omega), getD_setS _ _ _ _ _ (by omega)]
    by_cases hjk : j = k
    · rw [if_pos hjk, if_pos hjk]
      have h1 : intV (L.getD k [] ++ [x]) = intV (L.getD k []) ++ [.int .i64 x] := by unfold intV; simp
      rw [h1, List.length_append, hn]; exact hown
    · rw [if_neg hjk, if_neg hjk]
      exact own_other (h.1 j hj) o hg (h.2 j k hj hk hjk)
  · rw [getD_setS _ _ _ _ _ (by omega), getD_setS _ _ _ _ _ (by omega)]
    have hnew : ∀ t, t < 4 → t ≠ k → ∀ g', (V.getD t undef).ownBlock = some g' → g' ≠ g := fun t ht htk g' hg' hgg => by
      rcases hat with h1 | h1
      · exact h.2 t k ht hk htk g' hg' (by rw [h1, hgg])
      · have h2 := ((h.1 t ht).lt g' hg').2
        omega
    by_cases hik : i = k
    · rw [if_pos hik, if_neg (by omega)]
      intro g' hg' h3
      have h4 : g = g' := by
        have : (Value.slice (some ⟨g, 0, none⟩) (n + 1) cap).ownBlock = some g := rfl
        rw [this] at hg'; exact Option.some.inj hg'
      exact hnew j hj (by omega) g' h3 h4.symm
    · rw [if_neg hik]
      by_cases hjk : j = k
      · rw [if_pos hjk]
        intro g' hg' h3
        have h4 : g = g' := by
          have : (Value.slice (some ⟨g, 0, none⟩) (n + 1) cap).ownBlock = some g := rfl
          rw [this] at h3; exact Option.some.inj h3
        exact hnew i hi hik g' hg' h4.symm
      · rw [if_neg hjk]; exact h.2 i j hi hj hne
theorem FourR.setCell {w : World} {B : Nat} {V : List Value} {L : List (List Int)} (h : FourR w B V L) (p : Addr) (hp : p.block < B) (u : Value) : FourR (w.setCell p u) B V L :=
  ⟨fun k hk => ownsRow_setCell_below (h.1 k hk) hp u, h.2⟩

end Go.Proofs.Ytgnjknboahcmgaa

/- Rows of the call's own as what is durable. -/
namespace Go.Proofs.Ytgnjknboahcmgaa
set_option maxRecDepth 100000
open Go.RowKit

theorem own_oneS {w : World} {B z n : Nat} {v : Value} {xs : List Value} {e : TypeId} (h : w.ownsRow B e z v n xs) : v.oneCell' = true := by
  rcases h.2 with ⟨rfl, _⟩ | ⟨g, cap, cur, rfl, _⟩ <;> rfl
theorem FourR.one {w : World} {B : Nat} {a b c d : Value} {L : List (List Int)} (h : FourR w B [a, b, c, d] L) : (#[a, b, c, d] : Array Value).all (·.oneCell') = true := by
  have h0 : a.oneCell' = true := own_oneS (h.1 0 (by decide))
  have h1 : b.oneCell' = true := own_oneS (h.1 1 (by decide))
  have h2 : c.oneCell' = true := own_oneS (h.1 2 (by decide))
  have h3 : d.oneCell' = true := own_oneS (h.1 3 (by decide))
  simp [h0, h1, h2, h3]
theorem FourR.setRow {w : World} {B b : Nat} {V : List Value} {L : List (List Int)} (h : FourR w B V L) (hb : b < B) (cs : Array Value) : FourR (w.setRow b cs) B V L := by
  refine ⟨fun k hk => ?_, h.2⟩
  have hu := h.1 k hk
  refine ⟨hu.1, ?_⟩
  rcases hu.2 with ⟨h0, h1⟩ | ⟨g, cap, cur, h0, hbg, hgc, h1⟩
  · exact .inl ⟨h0, h1⟩
  · refine .inr ⟨g, cap, cur, h0, hbg, ?_, h1⟩
    simp only [World.setRow, Array.getElem?_modify]
    rw [if_neg (by omega)]; exact hgc
end Go.Proofs.Ytgnjknboahcmgaa

/- Package state, walked: what a keeper is; isOf, at, slices.Clone. -/
namespace Go.Proofs.Ytgnjknboahcmgaa
set_option maxRecDepth 100000
open Go.RowKit

/-- a row of n numbers from the start of block g on -/
def RowI (w : World) (g n cap : Nat) (l : List Int) : Prop := l.length = n ∧ (n ≤ cap ∧ cap ≤ maxLen) ∧ ∃ cs : Array Value, Blk w g cs 3 ∧ cs.toList.take n = intV l
theorem RowI.cell {w : World} {g n cap : Nat} {l : List Int} (h : RowI w g n cap l) (i : Nat) (hi : i < n) : w.cell? ⟨g, i, none⟩ = some (.int .i64 (l.getD i 0)) := by
  obtain ⟨h1, _, cs, hb, hc⟩ := h
  rw [hb.cell, ← Array.getElem?_toList]
  have h2 : (cs.toList.take n)[i]? = cs.toList[i]? := by rw [List.getElem?_take_of_lt hi]
  rw [← h2, hc]
  unfold intV
  rw [List.getElem?_map, List.getD_eq_getElem?_getD, List.getElem?_eq_getElem (by omega)]
  rfl
theorem RowI.free {w : World} {g n cap : Nat} {l : List Int} (h : RowI w g n cap l) (i : Nat) : w.frozen? ⟨g, i, none⟩ = false := by obtain ⟨_, _, _, hb, _⟩ := h; exact hb.free i
theorem RowI.lt {w : World} {g n cap : Nat} {l : List Int} (h : RowI w g n cap l) : g < w.heap.size := by obtain ⟨_, _, _, hb, _⟩ := h; exact hb.lt
theorem RowI.set {w : World} {g n cap : Nat} {l : List Int} (h : RowI w g n cap l) (p : Nat) (v : Int) : RowI (w.setCell ⟨g, p, none⟩ (.int .i64 v)) g n cap (l.set p v) := by
  obtain ⟨h1, h2, cs, hb, hc⟩ := h
  refine ⟨by rw [List.length_set]; exact h1, h2, _, hb.set p _ rfl, ?_⟩
  rw [Array.toList_setIfInBounds, List.take_set, hc]
  unfold intV
  rw [List.map_set]
/-- where that block stays as it is -/
theorem RowI.blk {w w' : World} {g n cap : Nat} {l : List Int} (h : RowI w g n cap l) (hb : w'.heap[g]? = w.heap[g]?) : RowI w' g n cap l := by
  obtain ⟨h1, h2, cs, h3, hc⟩ := h
  exact ⟨h1, h2, cs, by unfold Blk at *; rw [hb]; exact h3, hc⟩
theorem RowI.iv {w : World} {g n cap : Nat} {l : List Int} (h : RowI w g n cap l) : IvAt w (.slice (some ⟨g, 0, none⟩) n cap) l := by
  have h' := h
  obtain ⟨h1, h2, _⟩ := h
  subst h1
  refine ⟨some ⟨g, 0, none⟩, cap, rfl, h2, fun _ => ⟨g, 0, rfl, h'.lt, fun i hi => ?_⟩⟩
  rw [Nat.zero_add, h'.cell i hi, List.getD_eq_getElem?_getD, List.getElem?_eq_getElem hi]
  rfl
theorem RowI.own {w : World} {B n : Nat} {v : Value} {l : List Int} (h : w.ownsRow B 3 1 v n (intV l)) (hv : v ≠ .slice none 0 0) : ∃ g cap, v = .slice (some ⟨g, 0, none⟩) n cap ∧ B ≤ g ∧ RowI w g n cap l := by
  obtain ⟨h1, h2 | ⟨g, cap, cur, rfl, hB, hg, hc, hm, hz, ht⟩⟩ := h
  · exact absurd h2.1 hv
  · refine ⟨g, cap, rfl, hB, ?_, ⟨hc, hm⟩, cur, hg, ?_⟩
    · unfold intV at h1; rw [List.length_map] at h1; omega
    · rw [Nat.mul_one] at ht; exact ht

/-- blocks from K0 to K1 may turn; new ones come -/
def Out (K0 K1 : Nat) (w w' : World) : Prop := Below K0 w w' ∧ ∀ b, K1 ≤ b → b < w.heap.size → w'.heap[b]? = w.heap[b]?
theorem Out.refl (K0 K1 : Nat) (w : World) : Out K0 K1 w w := ⟨Below.refl _ _, fun _ _ _ => rfl⟩
theorem Out.trans {K0 K1 : Nat} {a b c : World} (h : Out K0 K1 a b) (k : Out K0 K1 b c) : Out K0 K1 a c :=
  ⟨h.1.trans k.1, fun i hi hl => (k.2 i hi (Nat.lt_of_lt_of_le hl h.1.size)).trans (h.2 i hi hl)⟩
theorem Out.set {K0 K1 g : Nat} (w : World) (h0 : K0 ≤ g) (h1 : g < K1) (i : Nat) (v : Value) : Out K0 K1 w (w.setCell ⟨g, i, none⟩ v) :=
  ⟨(Below.refl _ _).setCell (p := ⟨g, i, none⟩) h0 v, fun b hb _ => Below.heap_setCell _ _ _ _ (by show b ≠ g; omega)⟩
theorem Out.drew (K0 K1 : Nat) (w : World) : Out K0 K1 w w.drew := ⟨(Below.refl _ _).drew, fun _ _ _ => rfl⟩
theorem Out.call {K0 K1 : Nat} {w w' : World} (h : K0 ≤ w.heap.size) (hb : Below w.heap.size w w') : Out K0 K1 w w' := ⟨hb.mono h, fun b _ hl => hb.block b hl⟩
theorem Blk.out {K0 K1 b : Nat} {w w' : World} {cs : Array Value} {t : TypeId} (h : Blk w b cs t) (ho : Out K0 K1 w w') (hb : b < K0 ∨ K1 ≤ b) : Blk w' b cs t := by
  have hl := h.lt
  unfold Blk at *
  rcases hb with hb | hb
  · rw [ho.1.block b hb]; exact h
  · rw [ho.2 b hb hl]; exact h

/-- where a keeper's rows lie, how many numbers they have, how many they have room for -/
structure KL where
  gf : Nat
  gc : Nat
  gs : Nat
  gt : Nat
  kf : Nat
  kc : Nat
  ks : Nat
  kt : Nat
  n : Nat
  b : Nat
def kpV (gf gc gs gt kf kc ks kt n b : Nat) : Array Value := #[.slice (some ⟨gf, 0, none⟩) n kf, .slice (some ⟨gc, 0, none⟩) b kc, .slice (some ⟨gs, 0, none⟩) b ks, .slice (some ⟨gt, 0, none⟩) b kt]
theorem kpV_one (gf gc gs gt kf kc ks kt n b : Nat) : (kpV gf gc gs gt kf kc ks kt n b).all (·.oneCell') = true := by unfold kpV; simp [Value.oneCell']
def KApart (K0 K1 o : Nat) (K : KL) : Prop :=
  ((K0 ≤ o ∧ o < K1) ∧ (K0 ≤ K.gf ∧ K.gf < K1) ∧ (K0 ≤ K.gc ∧ K.gc < K1) ∧ (K0 ≤ K.gs ∧ K.gs < K1) ∧ (K0 ≤ K.gt ∧ K.gt < K1))
  ∧ (o ≠ K.gf ∧ o ≠ K.gc ∧ o ≠ K.gs ∧ o ≠ K.gt) ∧ (K.gf ≠ K.gc ∧ K.gf ≠ K.gs ∧ K.gf ≠ K.gt) ∧ (K.gc ≠ K.gs ∧ K.gc ≠ K.gt) ∧ K.gs ≠ K.gt
/-- the keeper in block o has x; it and its rows lie from K0 to K1 -/
def KpK (K0 K1 : Nat) (w : World) (o : Nat) (K : KL) (x : Sn) : Prop :=
  (KApart K0 K1 o K ∧ K1 ≤ w.heap.size) ∧ Blk w o (kpV K.gf K.gc K.gs K.gt K.kf K.kc K.ks K.kt K.n K.b) 62 ∧ RowI w K.gf K.n K.kf x.f ∧ RowI w K.gc K.b K.kc x.c ∧ RowI w K.gs K.b K.ks x.s ∧ RowI w K.gt K.b K.kt x.t
def Kp (K0 K1 : Nat) (w : World) (o : Nat) (x : Sn) : Prop := ∃ K, KpK K0 K1 w o K x
theorem KpK.keep {K0 K1 o : Nat} {w w' : World} {K : KL} {x : Sn} (h : KpK K0 K1 w o K x) (hz : w.heap.size ≤ w'.heap.size) (hb : ∀ b, K0 ≤ b → b < K1 → w'.heap[b]? = w.heap[b]?) : KpK K0 K1 w' o K x := by
  obtain ⟨⟨ha, h1⟩, h2, h3, h4, h5, h6⟩ := h
  obtain ⟨⟨⟨a0, b0⟩, ⟨a1, b1⟩, ⟨a2, b2⟩, ⟨a3, b3⟩, ⟨a4, b4⟩⟩, _⟩ := id ha
  refine ⟨⟨ha, Nat.le_trans h1 hz⟩, ?_, h3.blk (hb _ a1 b1), h4.blk (hb _ a2 b2), h5.blk (hb _ a3 b3), h6.blk (hb _ a4 b4)⟩
  unfold Blk at *
  rw [hb _ a0 b0]
  exact h2
theorem KpK.call {K0 K1 o : Nat} {w w' : World} {K : KL} {x : Sn} (h : KpK K0 K1 w o K x) (hb : Below w.heap.size w w') : KpK K0 K1 w' o K x := by
  have h1 := h.1.2
  exact h.keep hb.size fun b _ hl => hb.block b (Nat.lt_of_lt_of_le hl h1)
theorem KpK.drew {K0 K1 o : Nat} {w : World} {K : KL} {x : Sn} (h : KpK K0 K1 w o K x) : KpK K0 K1 w.drew o K x := h.call (Below.refl _ _).drew
theorem KpK.out {K0 K1 J0 J1 o : Nat} {w w' : World} {K : KL} {x : Sn} (h : KpK K0 K1 w o K x) (ho : Out J0 J1 w w') (hj : K1 ≤ J0 ∨ J1 ≤ K0) : KpK K0 K1 w' o K x := by
  have h1 := h.1.2
  refine h.keep ho.1.size fun b h0 hl => ?_
  rcases hj with hj | hj
  · exact ho.1.block b (by omega)
  · exact ho.2 b (by omega) (by omega)
theorem Kp.call {K0 K1 o : Nat} {w w' : World} {x : Sn} (h : Kp K0 K1 w o x) (hb : Below w.heap.size w w') : Kp K0 K1 w' o x := by obtain ⟨K, h⟩ := h; exact ⟨K, h.call hb⟩
theorem Kp.out {K0 K1 J0 J1 o : Nat} {w w' : World} {x : Sn} (h : Kp K0 K1 w o x) (ho : Out J0 J1 w w') (hj : K1 ≤ J0 ∨ J1 ≤ K0) : Kp K0 K1 w' o x := by obtain ⟨K, h⟩ := h; exact ⟨K, h.out ho hj⟩
theorem KpK.len {K0 K1 o : Nat} {w : World} {K : KL} {x : Sn} (h : KpK K0 K1 w o K x) : x.f.length = K.n ∧ x.c.length = K.b ∧ x.s.length = K.b ∧ x.t.length = K.b := ⟨h.2.2.1.1, h.2.2.2.1.1, h.2.2.2.2.1.1, h.2.2.2.2.2.1⟩
theorem KpK.four {K0 K1 o : Nat} {w : World} {K : KL} {x : Sn} (h : KpK K0 K1 w o K x) :
    w.cell? ⟨o, 0, none⟩ = some (.slice (some ⟨K.gf, 0, none⟩) K.n K.kf) ∧ w.cell? ⟨o, 1, none⟩ = some (.slice (some ⟨K.gc, 0, none⟩) K.b K.kc) ∧ w.cell? ⟨o, 2, none⟩ = some (.slice (some ⟨K.gs, 0, none⟩) K.b K.ks) ∧ w.cell? ⟨o, 3, none⟩ = some (.slice (some ⟨K.gt, 0, none⟩) K.b K.kt) :=
  ⟨h.2.1.cell 0, h.2.1.cell 1, h.2.1.cell 2, h.2.1.cell 3⟩
theorem RowI.set_other {w : World} {g h n cap : Nat} {l : List Int} (hr : RowI w g n cap l) (hne : h ≠ g) (i : Nat) (v : Value) : RowI (w.setCell ⟨h, i, none⟩ v) g n cap l := hr.blk (Below.heap_setCell _ _ _ _ (by show g ≠ h; exact Ne.symm hne))
theorem KpK.setF {K0 K1 o : Nat} {w : World} {K : KL} {x : Sn} (h : KpK K0 K1 w o K x) (p : Nat) (v : Int) : KpK K0 K1 (w.setCell ⟨K.gf, p, none⟩ (.int .i64 v)) o K ⟨x.f.set p v, x.c, x.s, x.t⟩ := by
  obtain ⟨⟨ha, h1⟩, h2, h3, h4, h5, h6⟩ := h
  obtain ⟨_, ⟨o1, o2, o3, o4⟩, ⟨f1, f2, f3⟩, ⟨c1, c2⟩, s1⟩ := id ha
  exact ⟨⟨ha, by rw [World.size_setCell]; exact h1⟩, h2.set_other (Ne.symm o1) _ _, h3.set _ _, h4.set_other f1 _ _, h5.set_other f2 _ _, h6.set_other f3 _ _⟩
theorem KpK.setC {K0 K1 o : Nat} {w : World} {K : KL} {x : Sn} (h : KpK K0 K1 w o K x) (p : Nat) (v : Int) : KpK K0 K1 (w.setCell ⟨K.gc, p, none⟩ (.int .i64 v)) o K ⟨x.f, x.c.set p v, x.s, x.t⟩ := by
  obtain ⟨⟨ha, h1⟩, h2, h3, h4, h5, h6⟩ := h
  obtain ⟨_, ⟨o1, o2, o3, o4⟩, ⟨f1, f2, f3⟩, ⟨c1, c2⟩, s1⟩ := id ha
  exact ⟨⟨ha, by rw [World.size_setCell]; exact h1⟩, h2.set_other (Ne.symm o2) _ _, h3.set_other (Ne.symm f1) _ _, h4.set _ _, h5.set_other c1 _ _, h6.set_other c2 _ _⟩
theorem KpK.setS {K0 K1 o : Nat} {w : World} {K : KL} {x : Sn} (h : KpK K0 K1 w o K x) (p : Nat) (v : Int) : KpK K0 K1 (w.setCell ⟨K.gs, p, none⟩ (.int .i64 v)) o K ⟨x.f, x.c, x.s.set p v, x.t⟩ := by
  obtain ⟨⟨ha, h1⟩, h2, h3, h4, h5, h6⟩ := h
  obtain ⟨_, ⟨o1, o2, o3, o4⟩, ⟨f1, f2, f3⟩, ⟨c1, c2⟩, s1⟩ := id ha
  exact ⟨⟨ha, by rw [World.size_setCell]; exact h1⟩, h2.set_other (Ne.symm o3) _ _, h3.set_other (Ne.symm f2) _ _, h4.set_other (Ne.symm c1) _ _, h5.set _ _, h6.set_other s1 _ _⟩
theorem KpK.setT {K0 K1 o : Nat} {w : World} {K : KL} {x : Sn} (h : KpK K0 K1 w o K x) (p : Nat) (v : Int) : KpK K0 K1 (w.setCell ⟨K.gt, p, none⟩ (.int .i64 v)) o K ⟨x.f, x.c, x.s, x.t.set p v⟩ := by
  obtain ⟨⟨ha, h1⟩, h2, h3, h4, h5, h6⟩ := h
  obtain ⟨_, ⟨o1, o2, o3, o4⟩, ⟨f1, f2, f3⟩, ⟨c1, c2⟩, s1⟩ := id ha
  exact ⟨⟨ha, by rw [World.size_setCell]; exact h1⟩, h2.set_other (Ne.symm o4) _ _, h3.set_other (Ne.symm f3) _ _, h4.set_other (Ne.symm c2) _ _, h5.set_other (Ne.symm s1) _ _, h6.set _ _⟩

theorem st_isof (oa : Option Addr) (n k : Nat) (i : Int) (w : World) : Calls Try.prog 46 #[.slice oa n k, .int .i64 i] w fun e w' => e = .returned (.bool (decide (0 ≤ i ∧ i < (n : Int)))) ∧ w = w' := by
  by_cases h0 : 0 ≤ i
  · have e0 : decide (0 ≤ i ∧ i < (n : Int)) = decide (i < (n : Int)) := by rw [Bool.eq_iff_iff]; simp [h0]
    rw [e0]
    clear e0
    go_enter Try.func46, Try.ntmps46
    go_wp2
    all_goals go_ret
    all_goals exact ⟨rfl, rfl⟩
  · have e0 : decide (0 ≤ i ∧ i < (n : Int)) = false := decide_eq_false (by omega)
    rw [e0]
    clear e0
    go_enter Try.func46, Try.ntmps46
    go_wp2
    all_goals go_ret
    all_goals exact ⟨rfl, rfl⟩
def atI (l : List Int) (i : Int) : Int := if 0 ≤ i ∧ i < (l.length : Int) then l.getD i.toNat 0 else 0
theorem st_at (g n k : Nat) (l : List Int) (i : Int) (w : World) (h : RowI w g n k l) : Calls Try.prog 33 #[.slice (some ⟨g, 0, none⟩) n k, .int .i64 i] w fun e w' => e = .returned (.int .i64 (atI l i)) ∧ w = w' := by
  unfold atI
  rw [h.1]
  by_cases h0 : 0 ≤ i ∧ i < (n : Int)
  · rw [if_pos h0]
    obtain ⟨p, rfl⟩ : ∃ p : Nat, i = p := ⟨i.toNat, by omega⟩
    have c1 := h.cell p (by omega)
    rw [Int.toNat_natCast]
    obtain ⟨v, hv⟩ : ∃ v, l.getD p 0 = v := ⟨_, rfl⟩
    rw [hv] at c1 ⊢
    have hb : decide (0 ≤ (p : Int) ∧ (p : Int) < (n : Int)) = true := decide_eq_true h0
    have p0 : (0 : Int) ≤ (p : Int) := h0.1
    have p1 : (p : Int) < (n : Int) := h0.2
    clear h h0 hv
    go_enter Try.func33, Try.ntmps33
    go_wp2_with fail
    refine (st_isof _ _ _ _ _).mono ?_
    rintro e w1 ⟨rfl, rfl⟩
    rw [hb]
    clear hb
    go_wp2_with fail
    go_ret
    exact ⟨rfl, rfl⟩
  · rw [if_neg h0]
    have hb : decide (0 ≤ i ∧ i < (n : Int)) = false := decide_eq_false h0
    clear h h0
    go_enter Try.func33, Try.ntmps33
    go_wp2_with fail
    refine (st_isof _ _ _ _ _).mono ?_
    rintro e w1 ⟨rfl, rfl⟩
    rw [hb]
    go_wp2_with fail
    go_ret
    exact ⟨rfl, rfl⟩

end Go.Proofs.Ytgnjknboahcmgaa

/- Package state, walked: lift, commit, erase. -/
namespace Go.Proofs.Ytgnjknboahcmgaa
set_option maxRecDepth 100000
open Go.RowKit

/-- is there this place? -/
def OfN (n : Nat) (a : Int) : Prop := 0 ≤ a ∧ a < (n : Int)
instance (n : Nat) (a : Int) : Decidable (OfN n a) := by unfold OfN; infer_instance
def liftX (x : Sn) (a q : Int) : Sn := ⟨x.f.set a.toNat (max (x.f.getD a.toNat 0) q), x.c, x.s, x.t⟩
def commX (x : Sn) (a q : Int) : Sn := ⟨x.f, x.c.set a.toNat q, x.s, x.t⟩
def eraX (x : Sn) (a m : Int) : Sn := if m = 2 then ⟨x.f, x.c.set a.toNat 0, x.s, x.t.set a.toNat (min (x.t.getD a.toNat 0 + 1) 16777215)⟩ else ⟨x.f, x.c.set a.toNat 0, x.s.set a.toNat (min (x.s.getD a.toNat 0 + 1) 16777215), x.t⟩
def codE (n : Nat) (a : Int) : Int := if OfN n a then 0 else 110
theorem max_ifC (a b : Int) : (if a < b then b else a) = max a b := by omega
theorem min_ifC (a b : Int) : (if b < a then b else a) = min a b := by omega
/-- what a change leaves -/
def ChgK (K0 K1 o : Nat) (K : KL) (n : Nat) (a : Int) (x y : Sn) (w : World) (e : Ending) (w' : World) : Prop :=
  e = .returned (.int .i64 (codE n a)) ∧ KpK K0 K1 w' o K (if OfN n a then y else x) ∧ Out K0 K1 w w'
theorem chg_no {K0 K1 o n : Nat} {K : KL} {a : Int} {x y : Sn} {w : World} (h : KpK K0 K1 w o K x) (ha : ¬ OfN n a) : ChgK K0 K1 o K n a x y w (.returned (.int .i64 110)) w := by
  unfold ChgK codE
  rw [if_neg ha, if_neg ha]
  exact ⟨rfl, h, Out.refl _ _ _⟩
theorem chg_yes {K0 K1 o n : Nat} {K : KL} {a : Int} {x y : Sn} {w w' : World} (h : KpK K0 K1 w' o K y) (ho : Out K0 K1 w w') (ha : OfN n a) : ChgK K0 K1 o K n a x y w (.returned (.int .i64 0)) w' := by
  unfold ChgK codE
  rw [if_pos ha, if_pos ha]
  exact ⟨rfl, h, ho⟩

theorem st_lift (K0 K1 o : Nat) (K : KL) (x : Sn) (a q : Int) (w : World) (h : KpK K0 K1 w o K x) :
    Calls Try.prog 30 #[.pointer (some ⟨o, 0, none⟩), .int .i64 a, .int .i64 q] w (ChgK K0 K1 o K K.n a x (liftX x a q) w) := by
  have H := Lib.hid h
  have c0 := h.four.1
  by_cases h0 : OfN K.n a
  · obtain ⟨p, rfl⟩ : ∃ p : Nat, a = p := ⟨a.toNat, by have := h0.1; omega⟩
    have HA := Lib.hid h0
    have hb : decide (0 ≤ (p : Int) ∧ (p : Int) < (K.n : Int)) = true := decide_eq_true h0
    have p0 : (0 : Int) ≤ (p : Int) := h0.1
    have p1 : (p : Int) < (K.n : Int) := h0.2
    have e1 := h.2.2.1.cell p (by omega)
    have f1 := h.2.2.1.free p
    have HG : Hid (K0 ≤ K.gf ∧ K.gf < K1) := h.1.1.1.2.1
    obtain ⟨fl, hfl⟩ : ∃ fl, x.f.getD p 0 = fl := ⟨_, rfl⟩
    have HX : Hid (KpK K0 K1 (w.drew.setCell ⟨K.gf, p, none⟩ (.int .i64 (max fl q))) o K (liftX x p q)) := by
      have h2 := h.drew.setF p (max fl q)
      unfold liftX
      rw [Int.toNat_natCast, hfl]
      exact h2
    rw [hfl] at e1
    clear h h0 hfl H
    obtain ⟨gf, gc, gs, gt, kf, kc, ks, kt, n, b⟩ := K
    go_enter Try.func30, Try.ntmps30
    go_wp2_with fail
    refine (st_isof _ _ _ _ _).mono ?_
    rintro e w1 ⟨rfl, rfl⟩
    rw [hb]
    clear hb
    go_upto_region 3 with fail
    go_region
    rw [max_ifC]
    go_wp2_with fail
    go_ret
    exact chg_yes HX.out ((Out.drew _ _ _).trans (Out.set _ HG.out.1 HG.out.2 _ _)) HA.out
  · have hb : decide (0 ≤ a ∧ a < (K.n : Int)) = false := decide_eq_false h0
    have HG := Lib.hid h0
    clear h h0
    obtain ⟨gf, gc, gs, gt, kf, kc, ks, kt, n, b⟩ := K
    go_enter Try.func30, Try.ntmps30
    go_wp2_with fail
    refine (st_isof _ _ _ _ _).mono ?_
    rintro e w1 ⟨rfl, rfl⟩
    rw [hb]
    clear hb
    go_wp2_with fail
    go_ret
    exact chg_no H.out HG.out

theorem st_commit (K0 K1 o : Nat) (K : KL) (x : Sn) (a q : Int) (w : World) (h : KpK K0 K1 w o K x) :
    Calls Try.prog 31 #[.pointer (some ⟨o, 0, none⟩), .int .i64 a, .int .i64 q] w (ChgK K0 K1 o K K.b a x (commX x a q) w) := by
  have H := Lib.hid h
  have c0 := h.four.2.1
  by_cases h0 : OfN K.b a
  · obtain ⟨p, rfl⟩ : ∃ p : Nat, a = p := ⟨a.toNat, by have := h0.1; omega⟩
    have HA := Lib.hid h0
    have hb : decide (0 ≤ (p : Int) ∧ (p : Int) < (K.b : Int)) = true := decide_eq_true h0
    have p0 : (0 : Int) ≤ (p : Int) := h0.1
    have p1 : (p : Int) < (K.b : Int) := h0.2
    have e1 := h.2.2.2.1.cell p (by omega)
    have f1 := h.2.2.2.1.free p
    have HG : Hid (K0 ≤ K.gc ∧ K.gc < K1) := h.1.1.1.2.2.1
    have HX : Hid (KpK K0 K1 (w.setCell ⟨K.gc, p, none⟩ (.int .i64 q)) o K (commX x p q)) := by
      have h2 := h.setC p q
      unfold commX
      rw [Int.toNat_natCast]
      exact h2
    clear h h0 H
    obtain ⟨gf, gc, gs, gt, kf, kc, ks, kt, n, b⟩ := K
    go_enter Try.func31, Try.ntmps31
    go_wp2_with fail
    refine (st_isof _ _ _ _ _).mono ?_
    rintro e w1 ⟨rfl, rfl⟩
    rw [hb]
    clear hb
    go_wp2_with fail
    go_ret
    exact chg_yes HX.out (Out.set _ HG.out.1 HG.out.2 _ _) HA.out
  · have hb : decide (0 ≤ a ∧ a < (K.b : Int)) = false := decide_eq_false h0
    have HG := Lib.hid h0
    clear h h0
    obtain ⟨gf, gc, gs, gt, kf, kc, ks, kt, n, b⟩ := K
    go_enter Try.func31, Try.ntmps31
    go_wp2_with fail
    refine (st_isof _ _ _ _ _).mono ?_
    rintro e w1 ⟨rfl, rfl⟩
    rw [hb]
    clear hb
    go_wp2_with fail
    go_ret
    exact chg_no H.out HG.out

theorem st_erase (K0 K1 o : Nat) (K : KL) (x : Sn) (a m : Int) (w : World) (h : KpK K0 K1 w o K x) (hB : CntB x) :
    Calls Try.prog 32 #[.pointer (some ⟨o, 0, none⟩), .int .i64 a, .int .i64 m] w (ChgK K0 K1 o K K.b a x (eraX x a m) w) := by
  have H := Lib.hid h
  obtain ⟨_, c1, c2, c3⟩ := h.four
  by_cases h0 : OfN K.b a
  · obtain ⟨p, rfl⟩ : ∃ p : Nat, a = p := ⟨a.toNat, by have := h0.1; omega⟩
    have HA := Lib.hid h0
    have hb : decide (0 ≤ (p : Int) ∧ (p : Int) < (K.b : Int)) = true := decide_eq_true h0
    have p0 : (0 : Int) ≤ (p : Int) := h0.1
    have p1 : (p : Int) < (K.b : Int) := h0.2
    have HG : Hid ((K0 ≤ K.gc ∧ K.gc < K1) ∧ (K0 ≤ K.gs ∧ K.gs < K1) ∧ (K0 ≤ K.gt ∧ K.gt < K1)) := h.1.1.1.2.2
    by_cases hm : m = 2
    · subst hm
      have e1 := h.2.2.2.2.2.cell p (by omega)
      have f1 := h.2.2.2.2.2.free p
      obtain ⟨fl, hfl⟩ : ∃ fl, x.t.getD p 0 = fl := ⟨_, rfl⟩
      have hcnt := cnt_get hB.2 p
      rw [hfl] at e1 hcnt
      have hw : IntKind.i64.wrap (fl + 1) = fl + 1 := by rw [IntKind.wrap_i64]; omega
      have h1 := h.setT p (min (fl + 1) 16777215)
      have d1 := h1.four.2.1
      have g1 := h1.2.2.2.1.free p
      have q1 := h1.2.2.2.1.cell p (by omega)
      have HX : Hid (KpK K0 K1 ((w.setCell ⟨K.gt, p, none⟩ (.int .i64 (min (fl + 1) 16777215))).setCell ⟨K.gc, p, none⟩ (.int .i64 0)) o K (eraX x p 2)) := by
        have h2 := h1.setC p 0
        unfold eraX
        rw [if_pos rfl, Int.toNat_natCast, hfl]
        exact h2
      clear h h0 hfl H hcnt hB h1
      obtain ⟨gf, gc, gs, gt, kf, kc, ks, kt, n, b⟩ := K
      obtain ⟨v, hv⟩ : ∃ v, min (fl + 1) 16777215 = v := ⟨_, rfl⟩
      have hmi : (if 16777215 < fl + 1 then 16777215 else fl + 1) = v := by rw [min_ifC]; exact hv
      rw [hv] at HX d1 g1 q1
      clear hv
      go_enter Try.func32, Try.ntmps32
      go_wp2_with fail
      refine (st_isof _ _ _ _ _).mono ?_
      rintro e w1 ⟨rfl, rfl⟩
      rw [hb]
      clear hb
      go_upto_region 7 with fail
      clear e1 f1 hmi hw
      go_wp2_with fail
      go_ret
      exact chg_yes HX.out ((Out.set _ HG.out.2.2.1 HG.out.2.2.2 _ _).trans (Out.set _ HG.out.1.1 HG.out.1.2 _ _)) HA.out
    · have hmb : (m == 2) = false := by simp [hm]
      have e1 := h.2.2.2.2.1.cell p (by omega)
      have f1 := h.2.2.2.2.1.free p
      obtain ⟨fl, hfl⟩ : ∃ fl, x.s.getD p 0 = fl := ⟨_, rfl⟩
      have hcnt := cnt_get hB.1 p
      rw [hfl] at e1 hcnt
      have hw : IntKind.i64.wrap (fl + 1) = fl + 1 := by rw [IntKind.wrap_i64]; omega
      have h1 := h.setS p (min (fl + 1) 16777215)
      have d1 := h1.four.2.1
      have g1 := h1.2.2.2.1.free p
      have q1 := h1.2.2.2.1.cell p (by omega)
      have HX : Hid (KpK K0 K1 ((w.setCell ⟨K.gs, p, none⟩ (.int .i64 (min (fl + 1) 16777215))).setCell ⟨K.gc, p, none⟩ (.int .i64 0)) o K (eraX x p m)) := by
        have h2 := h1.setC p 0
        unfold eraX
        rw [if_neg hm, Int.toNat_natCast, hfl]
        exact h2
      clear h h0 hfl H hcnt hB h1 hm
      obtain ⟨gf, gc, gs, gt, kf, kc, ks, kt, n, b⟩ := K
      obtain ⟨v, hv⟩ : ∃ v, min (fl + 1) 16777215 = v := ⟨_, rfl⟩
      have hmi : (if 16777215 < fl + 1 then 16777215 else fl + 1) = v := by rw [min_ifC]; exact hv
      rw [hv] at HX d1 g1 q1
      clear hv
      go_enter Try.func32, Try.ntmps32
      go_wp2_with fail
      refine (st_isof _ _ _ _ _).mono ?_
      rintro e w1 ⟨rfl, rfl⟩
      rw [hb]
      clear hb
      go_upto_region 7 with fail
      clear e1 f1 hmi hw
      go_wp2_with fail
      go_ret
      exact chg_yes HX.out ((Out.set _ HG.out.2.1.1 HG.out.2.1.2 _ _).trans (Out.set _ HG.out.1.1 HG.out.1.2 _ _)) HA.out
  · have hb : decide (0 ≤ a ∧ a < (K.b : Int)) = false := decide_eq_false h0
    have HG := Lib.hid h0
    clear h h0
    obtain ⟨gf, gc, gs, gt, kf, kc, ks, kt, n, b⟩ := K
    go_enter Try.func32, Try.ntmps32
    go_wp2_with fail
    refine (st_isof _ _ _ _ _).mono ?_
    rintro e w1 ⟨rfl, rfl⟩
    rw [hb]
    clear hb
    go_wp2_with fail
    go_ret
    exact chg_no H.out HG.out

end Go.Proofs.Ytgnjknboahcmgaa

/- Contracts of package bits, as far as later layers lean on them: Put of a number that fits, Get. -/
namespace Go.Proofs.Ytgnjknboahcmgaa
open Go.RowKit

end Go.Proofs.Ytgnjknboahcmgaa

/- Package rec, walked: May, Put, Take. -/
namespace Go.Proofs.Ytgnjknboahcmgaa
set_option maxRecDepth 100000
open Go.RowKit

def winB (v l m : Int) : Bool := decide (l ≤ v ∧ v ≤ m)
theorem rec_within (v l m : Int) (w : World) : Calls Try.prog 45 #[.int .i64 v, .int .i64 l, .int .i64 m] w fun r w' => r = .returned (.bool (winB v l m)) ∧ w = w' := by
  unfold winB
  go_enter Try.func45, Try.ntmps45
  go_wp2
  all_goals go_ret
  all_goals exact ⟨ret_bool (by rw [Bool.eq_iff_iff]; simp; try omega), rfl⟩

theorem may_low (k a b : Int) (hk : k = 1 ∨ k = 2) : mayR k a b = (winB a 0 4096 && winB b 0 281474976710655) := by
  rw [Bool.eq_iff_iff, mayR_iff]; unfold MayR winB; simp only [Bool.and_eq_true, decide_eq_true_eq]; omega
theorem may_com (a b : Int) : mayR 3 a b = (winB a 0 63 && winB b 1 4294967295) := by
  rw [Bool.eq_iff_iff, mayR_iff]; unfold MayR winB; simp only [Bool.and_eq_true, decide_eq_true_eq]; simp; try omega
theorem may_era (a b : Int) (hb : b = 1 ∨ b = 2) : mayR 4 a b = (winB a 0 63 && winB b 1 4294967295) := by
  rw [Bool.eq_iff_iff, mayR_iff]; unfold MayR winB; simp only [Bool.and_eq_true, decide_eq_true_eq]; simp; try omega
theorem may_era_no (a b : Int) (h1 : b ≠ 1) (h2 : b ≠ 2) : mayR 4 a b = false := by
  rw [← Bool.not_eq_true, mayR_iff]; unfold MayR; omega
theorem may_none (k a b : Int) (h1 : k ≠ 1) (h2 : k ≠ 2) (h3 : k ≠ 3) (h4 : k ≠ 4) : mayR k a b = false := by
  rw [← Bool.not_eq_true, mayR_iff]; unfold MayR; omega

theorem rec_may (k a b : Int) (w : World) : Calls Try.prog 29 #[.agg (ra k a b)] w (MayP k a b w) := by
  have HB : Hid (Below w.heap.size w (w.alloc (.cells (ra k a b) 37))) := (Below.refl _ _).alloc (Nat.le_refl _) _
  unfold MayP
  unfold ra at *
  by_cases h1 : k = 1 ∨ k = 2
  · rw [may_low k a b h1]
    obtain ⟨p, ep⟩ : ∃ p, winB a 0 4096 = p := ⟨_, rfl⟩
    obtain ⟨q, eq⟩ : ∃ q, winB b 0 281474976710655 = q := ⟨_, rfl⟩
    rw [ep, eq]
    have EP := Lib.hid ep; have EQ := Lib.hid eq
    clear ep eq
    rcases h1 with rfl | rfl
    all_goals
      go_enter Try.func29, Try.ntmps29
      go_wp2_with fail
      refine (rec_within a 0 4096 _).mono ?_
      rintro r w1 ⟨rfl, rfl⟩
      rw [EP.out]
      cases p
      · go_wp2_with fail
        go_ret
        exact ⟨rfl, HB.out⟩
      · go_wp2_with fail
        refine (rec_within b 0 281474976710655 _).mono ?_
        rintro r w1 ⟨rfl, rfl⟩
        rw [EQ.out]
        go_wp2_with fail
        go_ret
        exact ⟨by cases q <;> rfl, HB.out⟩
  · by_cases h3 : k = 3
    · subst h3
      clear h1
      rw [may_com a b]
      obtain ⟨p, ep⟩ : ∃ p, winB a 0 63 = p := ⟨_, rfl⟩
      obtain ⟨q, eq⟩ : ∃ q, winB b 1 4294967295 = q := ⟨_, rfl⟩
      rw [ep, eq]
      have EP := Lib.hid ep; have EQ := Lib.hid eq
      clear ep eq
      go_enter Try.func29, Try.ntmps29
      go_wp2_with fail
      refine (rec_within a 0 63 _).mono ?_
      rintro r w1 ⟨rfl, rfl⟩
      rw [EP.out]
      cases p
      · go_wp2_with fail
        go_ret
        exact ⟨rfl, HB.out⟩
      · go_wp2_with fail
        refine (rec_within b 1 4294967295 _).mono ?_
        rintro r w1 ⟨rfl, rfl⟩
        rw [EQ.out]
        go_wp2_with fail
        go_ret
        exact ⟨by cases q <;> rfl, HB.out⟩
    · by_cases h4 : k = 4
      · subst h4
        clear h1 h3
        by_cases hb : b = 1 ∨ b = 2
        · rw [may_era a b hb]
          obtain ⟨p, ep⟩ : ∃ p, winB a 0 63 = p := ⟨_, rfl⟩
          obtain ⟨q, eq⟩ : ∃ q, winB b 1 4294967295 = q := ⟨_, rfl⟩
          rw [ep, eq]
          have EP := Lib.hid ep; have EQ := Lib.hid eq
          clear ep eq
          rcases hb with rfl | rfl
          all_goals
            go_enter Try.func29, Try.ntmps29
            go_wp2_with fail
            refine (rec_within a 0 63 _).mono ?_
            rintro r w1 ⟨rfl, rfl⟩
            rw [EP.out]
            cases p
            · go_wp2_with fail
              go_ret
              exact ⟨rfl, HB.out⟩
            · go_wp2_with fail
              refine (rec_within _ 1 4294967295 _).mono ?_
              rintro r w1 ⟨rfl, rfl⟩
              rw [EQ.out]
              go_wp2_with fail
              go_ret
              exact ⟨by cases q <;> rfl, HB.out⟩
        · have b1 : b ≠ 1 := fun h => hb (Or.inl h)
          have b2 : b ≠ 2 := fun h => hb (Or.inr h)
          rw [may_era_no a b b1 b2]
          have e1 : (b != 1) = true := bne_iff_ne.2 b1
          have e2 : (b != 2) = true := bne_iff_ne.2 b2
          clear hb
          go_enter Try.func29, Try.ntmps29
          go_wp2_with fail
          go_ret
          exact ⟨rfl, HB.out⟩
      · have k1 : k ≠ 1 := fun h => h1 (Or.inl h)
        have k2 : k ≠ 2 := fun h => h1 (Or.inr h)
        rw [may_none k a b k1 k2 h3 h4]
        have e1 : (k == 1) = false := beq_eq_false_iff_ne.2 k1
        have e2 : (k == 2) = false := beq_eq_false_iff_ne.2 k2
        have e3 : (k == 3) = false := beq_eq_false_iff_ne.2 h3
        have e4 : (k == 4) = false := beq_eq_false_iff_ne.2 h4
        clear h1
        go_enter Try.func29, Try.ntmps29
        go_wp2_with fail
        go_ret
        exact ⟨rfl, HB.out⟩

/-- the frame while the region PC runs -/
def BasePC (B : Nat) (a : Act) : Prop := ∃ u : Nat → Value, a = ⟨#[u 0, .pointer (some ⟨B, 0, none⟩), u 2, u 3, u 4, u 5, u 6, u 7, u 8, u 9, u 10, u 11, u 12, u 13, u 14, u 15, u 16, u 17], []⟩
theorem BasePC.of {B : Nat} (arr : Array Value) (h : arr = #[arr.getD 0 undef, .pointer (some ⟨B, 0, none⟩), arr.getD 2 undef, arr.getD 3 undef, arr.getD 4 undef, arr.getD 5 undef, arr.getD 6 undef, arr.getD 7 undef, arr.getD 8 undef, arr.getD 9 undef, arr.getD 10 undef, arr.getD 11 undef, arr.getD 12 undef, arr.getD 13 undef, arr.getD 14 undef, arr.getD 15 undef, arr.getD 16 undef, arr.getD 17 undef]) : BasePC B ⟨arr, []⟩ := ⟨fun i => arr.getD i undef, by rw [← h]⟩
theorem BasePC.put7 {B : Nat} (a : Act) (v : Value) (h : BasePC B a) : BasePC B (a.put (some 7) v) := by
  obtain ⟨u, rfl⟩ := h
  exact ⟨fun i => if i = 7 then v else u i, by kernel_rfl⟩
theorem BasePC.put8 {B : Nat} (a : Act) (v : Value) (h : BasePC B a) : BasePC B (a.put (some 8) v) := by
  obtain ⟨u, rfl⟩ := h
  exact ⟨fun i => if i = 8 then v else u i, by kernel_rfl⟩
theorem BasePC.put9 {B : Nat} (a : Act) (v : Value) (h : BasePC B a) : BasePC B (a.put (some 9) v) := by
  obtain ⟨u, rfl⟩ := h
  exact ⟨fun i => if i = 9 then v else u i, by kernel_rfl⟩
theorem BasePC.put10 {B : Nat} (a : Act) (v : Value) (h : BasePC B a) : BasePC B (a.put (some 10) v) := by
  obtain ⟨u, rfl⟩ := h
  exact ⟨fun i => if i = 10 then v else u i, by kernel_rfl⟩
theorem BasePC.put11 {B : Nat} (a : Act) (v : Value) (h : BasePC B a) : BasePC B (a.put (some 11) v) := by
  obtain ⟨u, rfl⟩ := h
  exact ⟨fun i => if i = 11 then v else u i, by kernel_rfl⟩
theorem BasePC.put12 {B : Nat} (a : Act) (v : Value) (h : BasePC B a) : BasePC B (a.put (some 12) v) := by
  obtain ⟨u, rfl⟩ := h
  exact ⟨fun i => if i = 12 then v else u i, by kernel_rfl⟩
theorem BasePC.put13 {B : Nat} (a : Act) (v : Value) (h : BasePC B a) : BasePC B (a.put (some 13) v) := by
  obtain ⟨u, rfl⟩ := h
  exact ⟨fun i => if i = 13 then v else u i, by kernel_rfl⟩
theorem BasePC.put14 {B : Nat} (a : Act) (v : Value) (h : BasePC B a) : BasePC B (a.put (some 14) v) := by
  obtain ⟨u, rfl⟩ := h
  exact ⟨fun i => if i = 14 then v else u i, by kernel_rfl⟩
theorem BasePC.put15 {B : Nat} (a : Act) (v : Value) (h : BasePC B a) : BasePC B (a.put (some 15) v) := by
  obtain ⟨u, rfl⟩ := h
  exact ⟨fun i => if i = 15 then v else u i, by kernel_rfl⟩
theorem BasePC.put16 {B : Nat} (a : Act) (v : Value) (h : BasePC B a) : BasePC B (a.put (some 16) v) := by
  obtain ⟨u, rfl⟩ := h
  exact ⟨fun i => if i = 16 then v else u i, by kernel_rfl⟩
theorem BasePC.put17 {B : Nat} (a : Act) (v : Value) (h : BasePC B a) : BasePC B (a.put (some 17) v) := by
  obtain ⟨u, rfl⟩ := h
  exact ⟨fun i => if i = 17 then v else u i, by kernel_rfl⟩
theorem BasePC.put2 {B : Nat} (a : Act) (v : Value) (h : BasePC B a) : BasePC B (a.put (some 2) v) := by
  obtain ⟨u, rfl⟩ := h
  exact ⟨fun i => if i = 2 then v else u i, by kernel_rfl⟩
theorem BasePC.put3 {B : Nat} (a : Act) (v : Value) (h : BasePC B a) : BasePC B (a.put (some 3) v) := by
  obtain ⟨u, rfl⟩ := h
  exact ⟨fun i => if i = 3 then v else u i, by kernel_rfl⟩
/-- the frame while the region TC runs -/
def BaseTC (s : ByteArray) (B : Nat) (a : Act) : Prop := ∃ u : Nat → Value, a = ⟨#[.string s, u 1, .pointer (some ⟨B, 0, none⟩), u 3, u 4, u 5, u 6, u 7, u 8, u 9, u 10, u 11, u 12, u 13, u 14, u 15, u 16, u 17, u 18, u 19, u 20, u 21, u 22, u 23], []⟩
theorem BaseTC.of {s : ByteArray} {B : Nat} (arr : Array Value) (h : arr = #[.string s, arr.getD 1 undef, .pointer (some ⟨B, 0, none⟩), arr.getD 3 undef, arr.getD 4 undef, arr.getD 5 undef, arr.getD 6 undef, arr.getD 7 undef, arr.getD 8 undef, arr.getD 9 undef, arr.getD 10 undef, arr.getD 11 undef, arr.getD 12 undef, arr.getD 13 undef, arr.getD 14 undef, arr.getD 15 undef, arr.getD 16 undef, arr.getD 17 undef, arr.getD 18 undef, arr.getD 19 undef, arr.getD 20 undef, arr.getD 21 undef, arr.getD 22 undef, arr.getD 23 undef]) : BaseTC s B ⟨arr, []⟩ := ⟨fun i => arr.getD i undef, by rw [← h]⟩
theorem BaseTC.put9 {s : ByteArray} {B : Nat} (a : Act) (v : Value) (h : BaseTC s B a) : BaseTC s B (a.put (some 9) v) := by
  obtain ⟨u, rfl⟩ := h
  exact ⟨fun i => if i = 9 then v else u i, by kernel_rfl⟩
theorem BaseTC.put10 {s : ByteArray} {B : Nat} (a : Act) (v : Value) (h : BaseTC s B a) : BaseTC s B (a.put (some 10) v) := by
  obtain ⟨u, rfl⟩ := h
  exact ⟨fun i => if i = 10 then v else u i, by kernel_rfl⟩
theorem BaseTC.put11 {s : ByteArray} {B : Nat} (a : Act) (v : Value) (h : BaseTC s B a) : BaseTC s B (a.put (some 11) v) := by
  obtain ⟨u, rfl⟩ := h
  exact ⟨fun i => if i = 11 then v else u i, by kernel_rfl⟩
theorem BaseTC.put12 {s : ByteArray} {B : Nat} (a : Act) (v : Value) (h : BaseTC s B a) : BaseTC s B (a.put (some 12) v) := by
  obtain ⟨u, rfl⟩ := h
  exact ⟨fun i => if i = 12 then v else u i, by kernel_rfl⟩
theorem BaseTC.put13 {s : ByteArray} {B : Nat} (a : Act) (v : Value) (h : BaseTC s B a) : BaseTC s B (a.put (some 13) v) := by
  obtain ⟨u, rfl⟩ := h
  exact ⟨fun i => if i = 13 then v else u i, by kernel_rfl⟩
theorem BaseTC.put14 {s : ByteArray} {B : Nat} (a : Act) (v : Value) (h : BaseTC s B a) : BaseTC s B (a.put (some 14) v) := by
  obtain ⟨u, rfl⟩ := h
  exact ⟨fun i => if i = 14 then v else u i, by kernel_rfl⟩
theorem BaseTC.put15 {s : ByteArray} {B : Nat} (a : Act) (v : Value) (h : BaseTC s B a) : BaseTC s B (a.put (some 15) v) := by
  obtain ⟨u, rfl⟩ := h
  exact ⟨fun i => if i = 15 then v else u i, by kernel_rfl⟩
theorem BaseTC.put16 {s : ByteArray} {B : Nat} (a : Act) (v : Value) (h : BaseTC s B a) : BaseTC s B (a.put (some 16) v) := by
  obtain ⟨u, rfl⟩ := h
  exact ⟨fun i => if i = 16 then v else u i, by kernel_rfl⟩
theorem BaseTC.put17 {s : ByteArray} {B : Nat} (a : Act) (v : Value) (h : BaseTC s B a) : BaseTC s B (a.put (some 17) v) := by
  obtain ⟨u, rfl⟩ := h
  exact ⟨fun i => if i = 17 then v else u i, by kernel_rfl⟩
theorem BaseTC.put18 {s : ByteArray} {B : Nat} (a : Act) (v : Value) (h : BaseTC s B a) : BaseTC s B (a.put (some 18) v) := by
  obtain ⟨u, rfl⟩ := h
  exact ⟨fun i => if i = 18 then v else u i, by kernel_rfl⟩
theorem BaseTC.put4 {s : ByteArray} {B : Nat} (a : Act) (v : Value) (h : BaseTC s B a) : BaseTC s B (a.put (some 4) v) := by
  obtain ⟨u, rfl⟩ := h
  exact ⟨fun i => if i = 4 then v else u i, by kernel_rfl⟩

end Go.Proofs.Ytgnjknboahcmgaa

/- Package state, walked: slices.Clone, Apply. -/
namespace Go.Proofs.Ytgnjknboahcmgaa
set_option maxRecDepth 100000
open Go.RowKit

set_option maxHeartbeats 1000000 in
theorem st_clone (b off n c : Nat) (l : List Int) (w : World) (hl : l.length = n) (hz : 8 * n ≤ 140737488355328) (hc : ∀ i (h : i < l.length), w.cell? ⟨b, off + i, none⟩ = some (.int .i64 l[i])) :
    Calls Try.prog 34 #[.slice (some ⟨b, off, none⟩) n c] w fun e w' => (∃ g cap, e = .returned (.slice (some ⟨g, 0, none⟩) n cap) ∧ w.heap.size ≤ g ∧ RowI w' g n cap l) ∧ Below w.heap.size w w' := by
  obtain ⟨i0, hi0, hz0, hz1, hz2⟩ := info_partsX infoInt
  have HC := Lib.hid hc
  have q22 : ∀ (w : World) (a : Option Addr) (n c n' c' : Nat), (binOp .eql 30 (.slice a n c) (.slice none n' c')).run Try.prog w = .ok (.bool a.isNone) w := fun w a n c n' c' => Lib.run_eql_slice_nil w _ _ a n c n' c' Try.underlying30
  clear hc
  go_enter Try.func34, Try.ntmps34
  go_wp2_with (at_builtin; refine wpList_append_own _ rfl _ _ 30 rfl w.heap.size 3 i0 (.int .i64 0) 1 8 Try.underlying30 hi0 hz0 hz1 hz2 rfl (by decide) _ _ _ rfl (World.ownsRow_made w #[] 0 (Nat.le_refl _) (Nat.zero_le _) (by simp)) ⟨b, off, none⟩ n c (intV l) rfl ?qc1 ?qc2 ?qc3 ?qc4 ?qc5 ?qc6 ?_)
  case qc1 => unfold intV; rw [List.length_map]; omega
  case qc2 =>
    intro j u hj
    rw [Addr.add_lit]
    unfold intV at hj
    rw [List.getElem?_map] at hj
    obtain ⟨v, hv, rfl⟩ : ∃ v, l[j]? = some v ∧ Value.int .i64 v = u := by
      cases hh : l[j]? with
      | none => rw [hh] at hj; cases hj
      | some v => rw [hh] at hj; cases hj; exact ⟨v, rfl, rfl⟩
    obtain ⟨h1, h2⟩ := List.getElem?_eq_some_iff.1 hv
    rw [← h2]
    exact Lib.cell?_alloc_some _ (HC.out j h1)
  case qc3 => intro u hu; unfold intV at hu; rw [List.mem_map] at hu; obtain ⟨v, _, rfl⟩ := hu; rfl
  case qc4 => rw [Nat.zero_add]; unfold maxLen; omega
  case qc5 => rw [Nat.zero_add]; omega
  case qc6 => simp
  intro v' w1 hown hgrow hnil
  have hb1 : Below w.heap.size w w1 := ((Below.refl _ w).alloc (Nat.le_refl _) _).grown hgrow (by simp) (by intro k hk; simp [Value.ownBlock] at hk; omega)
  have hown2 : w1.ownsRow w.heap.size 3 1 v' n (intV l) := by simpa using hown
  obtain ⟨g, cap, rfl, hg, hr⟩ := RowI.own hown2 hnil
  have HR := Lib.hid hr
  clear hown hgrow hnil hown2 hr
  go_wp2
  go_ret
  exact ⟨⟨g, cap, rfl, hg, HR.out⟩, hb1⟩

/-- what Apply answers, of the code -/
def ApK (K0 K1 o : Nat) (K : KL) (x : Sn) (r : Rc) (w : World) (e : Ending) (w' : World) : Prop :=
  e = .returned (.int .i64 (appE x r)) ∧ KpK K0 K1 w' o K (appX x r) ∧ Out K0 K1 w w'
theorem app_noC {x : Sn} {r : Rc} (h : ¬ HasR x r) : appE x r = 110 ∧ appX x r = x := ⟨if_neg h, if_neg h⟩
theorem app_yesC {x : Sn} {r : Rc} (h : HasR x r) : appE x r = 0 ∧ appX x r = chgX x r := ⟨if_pos h, if_pos h⟩
/-- what a change leaves is what Apply leaves -/
theorem chg_app {K0 K1 o n : Nat} {K : KL} {k a b : Int} {x y : Sn} {w w1 w2 : World} {e : Ending} (h : ChgK K0 K1 o K n a x y w1 e w2) (hw : Out K0 K1 w w1) (hy : chgX x ⟨k, a, b⟩ = y) (hh : HasR x ⟨k, a, b⟩ ↔ OfN n a) : ApK K0 K1 o K x ⟨k, a, b⟩ w e w2 := by
  obtain ⟨rfl, h2, h3⟩ := h
  refine ⟨?_, ?_, hw.trans h3⟩
  · unfold appE codE
    simp only [hh]
  · unfold appX
    simp only [hh, hy]
    exact h2

set_option maxHeartbeats 1000000 in
theorem st_apply (K0 K1 o : Nat) (K : KL) (x : Sn) (k a b : Int) (w : World) (h : KpK K0 K1 w o K x) (hB : CntB x) :
    Calls Try.prog 11 #[.pointer (some ⟨o, 0, none⟩), .agg (ra k a b)] w (ApK K0 K1 o K x ⟨k, a, b⟩ w) := by
  obtain ⟨w2, hw2⟩ : ∃ w2, w.alloc (.cells (ra k a b) 37) = w2 := ⟨_, rfl⟩
  have hK2 : KpK K0 K1 w2 o K x := by rw [← hw2]; exact h.call ((Below.refl _ _).alloc (Nat.le_refl _) _)
  have hW2 : Out K0 K1 w w2 := by rw [← hw2]; exact Out.call (by have := h.1; have := h.1.1.1; omega) ((Below.refl _ _).alloc (Nat.le_refl _) _)
  have hR2 : Blk w2 w.heap.size (ra k a b) 37 := by rw [← hw2]; exact Blk.new _ _ _
  have HK2 := Lib.hid hK2
  have HW2 := Lib.hid hW2
  have HR2 := Lib.hid hR2
  have HCB := Lib.hid hB
  have HRA : Hid ((ra k a b) = #[.int .i64 k, .int .i64 a, .int .i64 b]) := rfl
  clear h hB hK2 hW2 hR2
  go_enter Try.func11, Try.ntmps11
  go_wp2_with (first
    | (refine wpList_load_row rfl 37 (.tmp 3) rfl w.heap.size rfl 37 (ra k a b) (0, 0) _ HR2.out Try.underlying37 rfl size_rec ?_))
  refine (rec_may k a b _).mono ?_
  rintro e w3 ⟨rfl, hb3⟩
  have HK3 := Lib.hid (HK2.out.call hb3)
  have HW3 := Lib.hid (HW2.out.trans (Out.call (by have := HK2.out.1; have := HK2.out.1.1.1; omega) hb3))
  have HR3 := Lib.hid (HR2.out.after hb3)
  clear hb3 hw2 HK2 HR2 HW2
  by_cases hm : ¬ MayR k a b
  · have hmb : mayR k a b = false := by unfold mayR; exact decide_eq_false hm
    rw [hmb]
    have HG := Lib.hid (app_noC (x := x) (r := ⟨k, a, b⟩) fun h => hm h.1)
    clear hm hmb
    go_wp2_with fail
    go_ret
    refine ⟨?_, ?_, HW3.out⟩
    · exact congrArg (fun c => Ending.returned (.int .i64 c)) HG.out.1.symm
    · rw [HG.out.2]; exact HK3.out
  have hm := Decidable.not_not.1 hm
  have hmb : mayR k a b = true := (mayR_iff k a b).2 hm
  rw [hmb]
  have hbd := may_bd hm
  have HM := Lib.hid hm
  have c0 : w3.cell? ⟨w.heap.size, 0, none⟩ = some (.int .i64 k) := HR3.out.cell 0
  have c1 : w3.cell? ⟨w.heap.size, 1, none⟩ = some (.int .i64 a) := HR3.out.cell 1
  have c2 : w3.cell? ⟨w.heap.size, 2, none⟩ = some (.int .i64 b) := HR3.out.cell 2
  have HLN := Lib.hid HK3.out.len
  clear hm hmb
  by_cases hk2 : k ≤ 2
  · have hh : HasR x ⟨k, a, b⟩ ↔ OfN K.n a := by
      unfold HasR OfN
      have h1 := HM.out
      have h2 := HLN.out.1
      constructor
      · intro h; have := h.2.1 hk2; simp at this; omega
      · intro h; exact ⟨h1, fun _ => by simp; omega, fun h3 => absurd hk2 h3⟩
    have hc : chgX x ⟨k, a, b⟩ = liftX x a b := by unfold chgX; rw [if_pos hk2]; rfl
    have HH := Lib.hid hh
    have HC := Lib.hid hc
    clear hh hc
    by_cases hk1 : k = 1
    · subst hk1
      clear hk2 hbd
      go_upto_region 7 with fail
      go_still_tail 7, (by kernel_rfl)
      change wpList _ _ _ _ _ w3.drew
      have HKD := Lib.hid HK3.out.drew
      have HWD := Lib.hid (HW3.out.trans (Out.drew _ _ _))
      generalize w3.drew = w4 at HKD HWD ⊢
      clear c0 c1 c2 HK3 HW3 HR3
      go_wp2_with fail
      refine (st_lift K0 K1 o K x a b _ HKD.out).mono ?_
      rintro e w5 h5
      have HE : Hid (ApK K0 K1 o K x _ w e w5) := chg_app h5 HWD.out HC.out HH.out
      obtain ⟨rfl, _, _⟩ := h5
      go_wp2_with fail
      go_ret
      exact HE.out
    · obtain rfl : k = 2 := by omega
      clear hk2 hbd hk1
      go_upto_region 7 with fail
      go_still_tail 7, (by kernel_rfl)
      change wpList _ _ _ _ _ w3.drew
      have HKD := Lib.hid HK3.out.drew
      have HWD := Lib.hid (HW3.out.trans (Out.drew _ _ _))
      generalize w3.drew = w4 at HKD HWD ⊢
      clear c0 c1 c2 HK3 HW3 HR3
      go_wp2_with fail
      refine (st_lift K0 K1 o K x a b _ HKD.out).mono ?_
      rintro e w5 h5
      have HE : Hid (ApK K0 K1 o K x _ w e w5) := chg_app h5 HWD.out HC.out HH.out
      obtain ⟨rfl, _, _⟩ := h5
      go_wp2_with fail
      go_ret
      exact HE.out
  · have hh : HasR x ⟨k, a, b⟩ ↔ OfN K.b a := by
      unfold HasR OfN
      have h1 := HM.out
      have h2 := HLN.out.2
      constructor
      · intro h; have := h.2.2 hk2; simp at this; omega
      · intro h; exact ⟨h1, fun h3 => absurd h3 hk2, fun _ => by simp; omega⟩
    have HH := Lib.hid hh
    clear hh
    by_cases hk3 : k = 3
    · subst hk3
      have HC : Hid (chgX x ⟨3, a, b⟩ = commX x a b) := by unfold Hid chgX; rw [if_neg (show ¬ (3 : Int) ≤ 2 by decide), if_pos rfl]; rfl
      clear hk2 hbd
      go_upto_region 9 with fail
      go_still_tail 7, (by kernel_rfl)
      change wpList _ _ _ _ _ w3.drew
      have HKD := Lib.hid HK3.out.drew
      have HWD := Lib.hid (HW3.out.trans (Out.drew _ _ _))
      generalize w3.drew = w4 at HKD HWD ⊢
      clear c0 c1 c2 HK3 HW3 HR3
      go_wp2_with fail
      refine (st_commit K0 K1 o K x a b _ HKD.out).mono ?_
      rintro e w5 h5
      have HE : Hid (ApK K0 K1 o K x _ w e w5) := chg_app h5 HWD.out HC.out HH.out
      obtain ⟨rfl, _, _⟩ := h5
      go_wp2_with fail
      go_ret
      exact HE.out
    · obtain rfl : k = 4 := by omega
      have hb12 : b = 1 ∨ b = 2 := by have := HM.out; unfold MayR at this; omega
      have HC : Hid (chgX x ⟨4, a, b⟩ = eraX x a b) := by
        unfold Hid chgX eraX
        rw [if_neg (show ¬ (4 : Int) ≤ 2 by decide), if_neg (show ¬ (4 : Int) = 3 by decide)]
        rcases hb12 with rfl | rfl
        · rfl
        · rfl
      clear hk2 hbd hk3 hb12
      go_upto_region 4 with fail
      go_still_tail 7, (by kernel_rfl)
      change wpList _ _ _ _ _ w3.drew
      have HKD := Lib.hid HK3.out.drew
      have HWD := Lib.hid (HW3.out.trans (Out.drew _ _ _))
      generalize w3.drew = w4 at HKD HWD ⊢
      clear c0 c1 c2 HK3 HW3 HR3
      go_wp2_with fail
      refine (st_erase K0 K1 o K x a b _ HKD.out HCB.out).mono ?_
      rintro e w5 h5
      have HE : Hid (ApK K0 K1 o K x _ w e w5) := chg_app h5 HWD.out HC.out HH.out
      obtain ⟨rfl, _, _⟩ := h5
      go_wp2_with fail
      go_ret
      exact HE.out

end Go.Proofs.Ytgnjknboahcmgaa
