/- The reference of fault, walked: Ahead; and are two slices of faults the same. -/
import Derived.Test.YtbpkaegkcknemaaFaR1
import Derived.Test.YtbpkaegkcknemaaFaK
import Derived.Deep.QuietTactic
import Derived.BigQuiet
import Derived.Laws.MakeOwn
namespace Go.Proofs.Ytbpkaegkcknemaa
set_option maxRecDepth 100000
open Go.RowKit Go.Shelf Go.Proofs

/-- the places of the first i are filled -/
def Filled (l R dl : List Fa) (i : Nat) : Prop := dl.length = l.length ∧ ∀ j (hj : j < l.length), j < i → dl[rkF l l[j].1 j]? = R[rkF l l[j].1 j]?
theorem Filled.next {l R dl : List Fa} {i : Nat} (h : Filled l R dl i) (hs : Srt R) (hst : St l R) (hi : i < l.length) : rkF l l[i].1 i < dl.length ∧ Filled l R (dl.set (rkF l l[i].1 i) l[i]) (i + 1) := by
  obtain ⟨hlt, hat⟩ := rk_at hs hst hi
  have hlen : R.length = l.length := hst.perm.length_eq.symm
  refine ⟨by rw [h.1]; omega, by rw [List.length_set]; exact h.1, fun j hj hji => ?_⟩
  by_cases e : rkF l l[i].1 i = rkF l l[j].1 j
  · rw [← e, List.getElem?_set_self (by rw [h.1]; omega), List.getElem?_eq_getElem hlt, hat]
  · rw [List.getElem?_set_ne e]
    refine h.2 j hj ?_
    by_cases e2 : j = i
    · subst e2; exact absurd rfl e
    · omega
theorem Filled.all {l R dl : List Fa} (h : Filled l R dl l.length) (hs : Srt R) (hst : St l R) : dl = R := by
  have hlen : R.length = l.length := hst.perm.length_eq.symm
  apply List.ext_getElem?
  intro n
  rcases Nat.lt_or_ge n R.length with hn | hn
  · obtain ⟨j, hj, e⟩ := rk_all hs hst hn
    rw [← e]
    exact h.2 j hj hj
  · rw [List.getElem?_eq_none (by rw [h.1]; omega), List.getElem?_eq_none hn]

/-- what the reference's Ahead keeps while it goes -/
structure AhR (w : World) (B off g : Nat) (l R : List Fa) (i : Nat) (wr : World) : Prop where
  row : ∃ dl, FRow wr g dl ∧ Filled l R dl i
  low : Below w.heap.size w wr
  src : ∀ i (hi : i < l.length), wr.rangeAt B (off + i * 4) (encF l[i])
theorem AhR.drewN {w wr : World} {B off g : Nat} {l R : List Fa} {i : Nat} (h : AhR w B off g l R i wr) (q : Nat) : AhR w B off g l R i (wr.drewN q) := by
  obtain ⟨⟨dl, h1, h2⟩, h3, h4⟩ := h
  exact ⟨⟨dl, h1.keep rfl (Nat.le_refl _), h2⟩, ⟨h3.os, h3.tape, h3.output, h3.size, h3.block⟩, h4⟩

theorem zeros_row (w : World) (n : Nat) : FRow (w.alloc (.cells (Builtin.zeroCells (encF f0).toArray n) 26)) w.heap.size (List.replicate n f0) := by
  have hb := Blk.new w (Builtin.zeroCells (encF f0).toArray n) 26
  refine FRow.of_blk hb ?_
  rw [List.length_replicate]
  have hl : (Builtin.zeroCells (encF f0).toArray n).toList.length = n * 4 := zerosF_len n
  rw [List.take_of_length_le (by omega)]
  apply List.ext_getElem?
  intro t
  rcases Nat.lt_or_ge t (n * 4) with ht | ht
  · have h1 := flatF_get (List.replicate n f0) (t / 4) (t % 4) (by rw [List.length_replicate]; omega) (by omega)
    rw [show t / 4 * 4 + t % 4 = t by omega] at h1
    rw [h1]
    have h4 : t % 4 < 4 := Nat.mod_lt _ (by decide)
    unfold Builtin.zeroCells
    rw [List.getElem_replicate]
    have ht2 : t < n * (encF f0).toArray.size := ht
    simp only [Array.toList_map, Array.toList_range, List.getElem?_map]
    rw [List.getElem?_range ht2]
    show some ((encF f0).toArray[t % 4]!) = _
    generalize t % 4 = r at h4
    match r, h4 with
    | 0, _ => rfl
    | 1, _ => rfl
    | 2, _ => rfl
    | 3, _ => rfl
  · rw [List.getElem?_eq_none (by omega), List.getElem?_eq_none (by rw [flatF_len, List.length_replicate]; omega)]

theorem run_make_f (w : World) (n : Nat) (hn : n ≤ 1000000) : Sem.run Try.prog (Instr.makeSlice 22 (.int .i64 (n : Int)) (.int .i64 (n : Int))) w = .ok (.slice (some ⟨w.heap.size, 0, none⟩) n n) (w.alloc (.cells (Builtin.zeroCells (encF f0).toArray n) 26)) := by
  obtain ⟨i0, hi, hz0, hz1, hz2⟩ := info_partsF infoFault
  have h := run_make (P := Try.prog) w 22 26 i0 _ Try.underlying22 hi hz0 .i64 .i64 (n : Int) (n : Int) (by omega) (Int.le_refl _) (by rw [hz2]; omega) (by omega)
  rw [hz1] at h
  simp only [Int.toNat_natCast] at h
  exact h
theorem AhR.put {w wr : World} {B off g : Nat} {l R : List Fa} {i : Nat} (h : AhR w B off g l R i wr) (hs : Srt R) (hst : St l R) (hi : i < l.length) (hBg : B ≠ g) (hg : w.heap.size ≤ g) :
    rkF l l[i].1 i < l.length ∧ wr.there g (rkF l l[i].1 i * 4) 4 ∧ AhR w B off g l R (i + 1) (wr.setCells g (rkF l l[i].1 i * 4) (encF l[i])) := by
  obtain ⟨⟨dl, h1, h2⟩, h3, h4⟩ := h
  obtain ⟨hlt, hf⟩ := h2.next hs hst hi
  refine ⟨by rw [← h2.1]; exact hlt, (h1.2 _ hlt).2, ⟨⟨_, h1.set _ _ hlt, hf⟩, OG.below h3 (OG.cells wr _ _) (Nat.le_refl _) hg, fun t ht u v hv => ?_⟩⟩
  rw [World.cell?_of_block (w := wr) (setCells_neF g B hBg _ _ _)]
  exact h4 t ht u v hv
theorem AhR.done {w wr : World} {B off g : Nat} {l R : List Fa} (h : AhR w B off g l R l.length wr) (hs : Srt R) (hst : St l R) : FsAt wr (some ⟨g, 0, none⟩) R := by
  obtain ⟨⟨dl, h1, h2⟩, _, _⟩ := h
  rw [h2.all hs hst] at h1
  exact h1.fs

/-- a call that gives these faults in a slice, with room for them -/
def GivesG (w : World) (l : List Fa) (e : Ending) (w' : World) : Prop := ∃ oa cap, e = .returned (.slice oa l.length cap) ∧ FsAt w' oa l ∧ Below w.heap.size w w' ∧ l.length ≤ cap

set_option maxHeartbeats 8000000 in
theorem rfa_ahead (oa : Option Addr) (cap : Nat) (l R : List Fa) (hl : l.length ≤ 1000000) (hs : Srt R) (hst : St l R) (w : World) (ha : FsAt w oa l) :
    Calls Try.prog 13 #[.slice oa l.length cap] w (GivesG w R) := by
  have hlen : R.length = l.length := hst.perm.length_eq.symm
  have HS := Lib.hid hs
  have HST := Lib.hid hst
  by_cases h0 : l = []
  · subst h0
    obtain rfl : R = [] := List.eq_nil_of_length_eq_zero hlen
    show Calls Try.prog _ #[.slice oa 0 cap] w (GivesG w [])
    clear ha hs hst hlen
    have hmk : ∀ w, Sem.run Try.prog (Instr.makeSlice 22 (.int .i64 0) (.int .i64 0)) w = .ok (.slice (some ⟨w.heap.size, 0, none⟩) 0 0) (w.alloc (.cells (Builtin.zeroCells (encF f0).toArray 0) 26)) := fun w => run_make_f w 0 (by omega)
    generalize Builtin.zeroCells (encF f0).toArray 0 = zz at hmk
    go_enter Try.func13, Try.ntmps13
    go_wp2
    refine wp_loop_rounds 1 ?_
    rw [rounds_succ]
    go_wp2
    go_ret
    exact ⟨_, _, rfl, FsAt.nil _ _, (Below.refl _ _).alloc (Nat.le_refl _) _, Nat.zero_le _⟩
  · obtain ⟨B, off, rfl, hB, hc⟩ := ha h0
    obtain ⟨n, hn⟩ : ∃ n, l.length = n := ⟨_, rfl⟩
    have HN := Lib.hid hn
    have hR0 := zeros_row w n
    have hb0 : Below w.heap.size w (w.alloc (.cells (Builtin.zeroCells (encF f0).toArray n) 26)) := (Below.refl _ w).alloc (Nat.le_refl _) _
    have hA0 : AhR w B off w.heap.size l R 0 (w.alloc (.cells (Builtin.zeroCells (encF f0).toArray n) 26)) :=
      ⟨⟨_, hR0, by rw [List.length_replicate]; exact hn.symm, fun j _ h => absurd h (Nat.not_lt_zero j)⟩, hb0, fun i hi t u hu => by rw [World.cell?_of_block (w := w) (hb0.block B hB)]; exact hc i hi t u hu⟩
    have HA0 := Lib.hid hA0
    have hmk := run_make_f w n (by omega)
    have HRL : Hid (R.length = n) := hlen.trans hn
    generalize Builtin.zeroCells (encF f0).toArray n = zz at hmk HA0
    rw [hn]
    rw [hn] at hl
    have hBne : B ≠ w.heap.size := by omega
    clear hR0 hb0 hA0 hc ha h0 hn hs hst hlen
    go_enter Try.func13, Try.ntmps13
    go_wp2
    go_loopg [4, 5, 6] n (fun kx s4 _ _ wr => ∃ i : Nat, s4 = .int .i64 i ∧ i ≤ n ∧ n - i ≤ kx ∧ Hid (AhR w B off w.heap.size l R i wr))
    case atStart => exact ⟨0, rfl, Nat.zero_le _, Nat.le_refl _, HA0⟩
    case round =>
      clear HA0 hmk
      obtain ⟨i, rfl, hi, hkx, HAI⟩ := hrel
      by_cases hlt : i < n
      · have hltz : (i : Int) < (n : Int) := by omega
        have hil : i < l.length := by have := HN.out; omega
        obtain ⟨v, hv⟩ : ∃ v, l[i].1 = v := ⟨_, rfl⟩
        have HV : Hid (∀ wr, AhR w B off w.heap.size l R i wr → wr.cell? ⟨B, off + i * 4, none⟩ = some (.int .i64 v)) := fun wr h => by rw [← hv]; exact h.src i hil 0 _ rfl
        have HRK : Hid (rkTo l v i n = rkF l v i) := by show _ = _; rw [← HN.out]; exact rkTo_all (by omega)
        have HPUT : Hid (∀ wr, AhR w B off w.heap.size l R i wr → ∃ x : Fa, wr.rangeAt B (off + i * 4) (encF x) ∧ rkF l v i < n ∧ wr.there w.heap.size (rkF l v i * 4) 4 ∧ AhR w B off w.heap.size l R (i + 1) (wr.setCells w.heap.size (rkF l v i * 4) (encF x))) := fun wr h => by
          have h1 := h.put HS.out HST.out hil hBne (Nat.le_refl _)
          rw [hv] at h1
          exact ⟨l[i], h.src i hil, by rw [← HN.out]; exact h1.1, h1.2.1, h1.2.2⟩
        clear hv
        have z0 : ((rkTo l v i 0 : Nat) : Int) = 0 := by unfold rkTo; simp
        have HZ0 := Lib.hid z0
        clear z0
        go_wp2
        go_loopg [5, 6] n (fun kx s5 s6 wr => ∃ t c : Nat, s6 = .int .i64 t ∧ s5 = .int .i64 c ∧ t ≤ n ∧ n - t ≤ kx ∧ Hid (c = rkTo l v i t) ∧ Hid (AhR w B off w.heap.size l R i wr))
        case atStart => exact ⟨0, 0, rfl, rfl, Nat.zero_le _, Nat.le_refl _, (by have := HZ0.out; show 0 = _; omega), HAI⟩
        case round =>
          clear HAI
          obtain ⟨t, c, rfl, rfl, ht, hkx2, HCN, HAT⟩ := hrel
          by_cases hlt2 : t < n
          · have hlt2z : (t : Int) < (n : Int) := by omega
            have htl : t < l.length := by have := HN.out; omega
            have cI := HV.out wr HAT.out
            have hcb : c ≤ 2000000 := by have h1 := rkTo_le l v i t; have h2 := HCN.out; have h3 := HN.out; omega
            have HY : Hid ((l[t].1 < v ∨ (l[t].1 = v ∧ t < i)) → rkTo l v i (t + 1) = c + 1) := fun h => by rw [rkTo_yes htl h, HCN.out]
            have HNO : Hid (¬ (l[t].1 < v ∨ (l[t].1 = v ∧ t < i)) → rkTo l v i (t + 1) = c) := fun h => by rw [rkTo_no htl h, HCN.out]
            have cT : wr.cell? ⟨B, off + t * 4, none⟩ = some (.int .i64 l[t].1) := HAT.out.src t htl 0 _ rfl
            generalize l[t].1 = y at cT HY HNO
            have HDR : Hid (∀ q, AhR w B off w.heap.size l R i (wr.drewN q)) := fun q => HAT.out.drewN q
            clear htl HCN
            by_cases h1 : y < v
            · have b1 : decide (y < v) = true := decide_eq_true h1
              have HE : Hid (c + 1 = rkTo l v i (t + 1)) := (HY.out (Or.inl h1)).symm
              go_wp2_with fail
              go_quiet (fail)
              go_wp2_with fail
              go_roundg (n - (t + 1))
              case measure => omega
              case rel => exact ⟨t + 1, c + 1, by go_num, by go_num, by omega, Nat.le_refl _, HE, HDR.out _⟩
            · have b1 : decide (y < v) = false := decide_eq_false h1
              by_cases h2 : y = v
              · have b2 : (y == v) = true := by simpa using h2
                by_cases h3 : t < i
                · have b3 : decide ((t : Int) < (i : Int)) = true := decide_eq_true (by omega)
                  have b3z : (t : Int) < (i : Int) := by omega
                  have HE : Hid (c + 1 = rkTo l v i (t + 1)) := (HY.out (Or.inr ⟨h2, h3⟩)).symm
                  clear h2
                  go_wp2_with fail
                  go_quiet (fail)
                  go_wp2_with fail
                  go_roundg (n - (t + 1))
                  case measure => omega
                  case rel => exact ⟨t + 1, c + 1, by go_num, by go_num, by omega, Nat.le_refl _, HE, HDR.out _⟩
                · have b3 : decide ((t : Int) < (i : Int)) = false := decide_eq_false (by omega)
                  have b3z : ¬ (t : Int) < (i : Int) := by omega
                  have HE : Hid (c = rkTo l v i (t + 1)) := (HNO.out (fun h => by omega)).symm
                  clear h2
                  go_wp2_with fail
                  go_quiet (fail)
                  go_wp2_with fail
                  go_roundg (n - (t + 1))
                  case measure => omega
                  case rel => exact ⟨t + 1, c, by go_num, by go_num, by omega, Nat.le_refl _, HE, HDR.out _⟩
              · have b2 : (y == v) = false := by simpa using h2
                have HE : Hid (c = rkTo l v i (t + 1)) := (HNO.out (fun h => by omega)).symm
                clear h2
                go_wp2_with fail
                go_quiet (fail)
                go_wp2_with fail
                go_roundg (n - (t + 1))
                case measure => omega
                case rel => exact ⟨t + 1, c, by go_num, by go_num, by omega, Nat.le_refl _, HE, HDR.out _⟩
          · obtain rfl : t = n := by omega
            have hlt2z : ¬ (t : Int) < (t : Int) := by omega
            obtain ⟨x, hrx, hpn, hth, hnx⟩ := HPUT.out wr HAT.out
            rw [← HRK.out, ← HCN.out] at hpn hth hnx
            have hcz : (c : Int) < (t : Int) := by omega
            have HRX := Lib.hid hrx
            have HTH : Hid (wr.there w.heap.size (c * 4) (encF x).toArray.size) := hth
            have HNX := Lib.hid hnx
            clear hrx hth hnx HCN HAT
            go_wp2_with (first
              | (refine wpList_load_mid rfl 26 (.tmp 57) rfl B (off + i * 4) rfl (encF x) _ HRX.out Try.underlying26 rfl size_fault ?_)
              | (refine wpList_store_mid rfl 26 (.tmp 59) (.tmp 58) rfl w.heap.size (c * 4) (encF x).toArray rfl rfl HTH.out size_fault (encF_all _) ?_))
            go_roundg (t - (i + 1))
            case measure => omega
            case rel => exact ⟨i + 1, by go_num, by omega, Nat.le_refl _, HNX⟩
      · obtain rfl : i = n := by omega
        have hltz : ¬ (i : Int) < (i : Int) := by omega
        have hd := HAI.out
        rw [show i = l.length from HN.out.symm] at hd
        have HF := Lib.hid (hd.done HS.out HST.out)
        have HLW := Lib.hid hd.low
        clear hd
        go_wp2
        go_ret
        exact ⟨_, i, by rw [HRL.out]; rfl, HF.out, HLW.out, Nat.le_of_eq HRL.out⟩

end Go.Proofs.Ytbpkaegkcknemaa
