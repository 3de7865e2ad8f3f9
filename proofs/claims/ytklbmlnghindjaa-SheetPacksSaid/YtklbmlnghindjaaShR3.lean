/- The reference of layer 12, walked: Pack. -/
import Derived.Test.YtklbmlnghindjaaShR2
import Derived.Deep.DeepCutAuto
import Derived.Deep.CutBlock
namespace Go.Proofs.Ytklbmlnghindjaa
set_option maxRecDepth 100000
open Go.RowKit

/-- the bytes of records, behind how many there are -/
def accL (k : Nat) (l : List Rc) : List UInt8 := UInt8.ofNat k :: l.flatMap (fun x => bs x.txt)
def accT (k : Nat) (l : List Rc) : ByteArray := ⟨(accL k l).toArray⟩
theorem txt_len (x : Rc) : (bs x.txt).length = 9 := by rw [bs_length]; exact recS_size _ _ _
theorem accL_len (k : Nat) (l : List Rc) : (accL k l).length = 1 + 9 * l.length := by
  unfold accL
  rw [List.length_cons]
  induction l with
  | nil => rfl
  | cons x r ih => rw [List.flatMap_cons, List.length_append, txt_len, List.length_cons]; omega
theorem accT_size (k : Nat) (l : List Rc) : (accT k l).size = 1 + 9 * l.length := accL_len k l
theorem accT_app (k : Nat) (l : List Rc) (x : Rc) : accT k (l ++ [x]) = accT k l ++ x.txt := by
  apply bytes_eq
  rw [ByteArray.data_append, Array.toList_append]
  show accL k (l ++ [x]) = accL k l ++ bs x.txt
  unfold accL
  rw [List.flatMap_append]
  simp
/-- a page of n bytes that holds these records -/
def padT (s : ByteArray) (j : Nat) : ByteArray := ⟨(bs s ++ List.replicate j 0).toArray⟩
theorem padT_zero (s : ByteArray) : padT s 0 = s := by apply bytes_eq; simp [padT, bs]
theorem padT_size (s : ByteArray) (j : Nat) : (padT s j).size = s.size + j := by show (bs s ++ List.replicate j 0).length = _; rw [List.length_append, bs_length, List.length_replicate]
theorem padT_step (s : ByteArray) (j : Nat) : padT s (j + 1) = padT s j ++ ⟨#[0]⟩ := by
  apply bytes_eq
  rw [ByteArray.data_append, Array.toList_append]
  show bs s ++ List.replicate (j + 1) 0 = (bs s ++ List.replicate j 0) ++ [0]
  rw [List.replicate_succ', List.append_assoc]
def pageX (n : Nat) (l : List Rc) : ByteArray := padT (accT l.length l) (n - (1 + 9 * l.length))
/-- the records of page i, of h each -/
def partX (h : Nat) (l : List Rc) (i : Nat) : List Rc := (l.drop (i * h)).take h
/-- how many pages -/
def pagesN (h : Nat) (l : List Rc) : Nat := (l.length + h - 1) / h
def pagesX (n h : Nat) (l : List Rc) : List ByteArray := (List.range (pagesN h l)).map fun i => pageX n (partX h l i)
def strV (l : List ByteArray) : List Value := l.map Value.string

theorem conv_one (c : Int) (w : World) : Sem.run Try.prog (convert 39 9 (.slice (some ⟨w.heap.size, 0, none⟩) 1 1)) (w.alloc (.cells #[.int .u8 c] 5)) = .ok (.string ⟨#[UInt8.ofNat c.toNat]⟩) (w.alloc (.cells #[.int .u8 c] 5)) := by
  have h : BytesAt (w.alloc (.cells #[.int .u8 c] 5)) w.heap.size [c] := by
    intro i hi
    obtain rfl : i = 0 := by simpa using hi
    rw [World.cell?_alloc_new]; rfl
  rw [h.conv Try.underlying39 Try.underlying5 Try.underlying9 1 1 rfl]
  rfl

theorem flat_take (xs : List Rc) (j : Nat) (h : j < xs.length) : xs.take (j + 1) = xs.take j ++ [xs[j]] := by rw [List.take_add_one, List.getElem?_eq_getElem h]; rfl
theorem partX_at (h : Nat) (l : List Rc) (p j : Nat) (hj : j < (partX h l p).length) : ∃ hx : p * h + j < l.length, (partX h l p)[j] = l[p * h + j] := by
  unfold partX at hj ⊢
  rw [List.length_take, List.length_drop] at hj
  exact ⟨by omega, by rw [List.getElem_take, List.getElem_drop]⟩
theorem pagesN_step {h len p : Nat} (h0 : 0 < h) (hp : p * h < len) : p < (len + h - 1) / h := by
  have h1 : (p + 1) * h ≤ len + h - 1 := by rw [Nat.add_mul]; omega
  exact (Nat.le_div_iff_mul_le h0).2 h1
theorem pagesN_end {h len p : Nat} (h0 : 0 < h) (h1 : len ≤ p * h) (h2 : p = 0 ∨ (p - 1) * h < len) : p = (len + h - 1) / h := by
  rcases h2 with rfl | h2
  · obtain rfl : len = 0 := by omega
    symm; exact Nat.div_eq_of_lt (by omega)
  · obtain ⟨q, rfl⟩ : ∃ q, p = q + 1 := ⟨p - 1, by
      rcases Nat.eq_zero_or_pos p with h3 | h3
      · subst h3; simp at h1; omega
      · omega⟩
    rw [Nat.add_sub_cancel] at h2
    rw [Nat.add_mul] at h1
    have h3 : (q + 1) * h ≤ len + h - 1 := by rw [Nat.add_mul]; omega
    have h4 : len + h - 1 < (q + 2) * h := by rw [Nat.add_mul]; omega
    have h5 := (Nat.le_div_iff_mul_le h0).2 h3
    have h6 := (Nat.div_lt_iff_lt_mul h0).2 h4
    omega

/-- what Pack answers -/
def PackT (l : List Rc) (n : Int) (w : World) (e : Ending) (w' : World) : Prop :=
  (holdN n = 0 → e = .returned (.tuple #[.slice none 0 0, .int .i64 2]))
  ∧ (holdN n ≠ 0 → (∀ x ∈ l, MayX x) → ∃ v, e = .returned (.tuple #[v, .int .i64 0]) ∧ w'.ownsRow w.heap.size 9 1 v (pagesN (holdN n) l) (strV (pagesX n.toNat (holdN n) l)))
  ∧ (holdN n ≠ 0 → ¬ (∀ x ∈ l, MayX x) → e = .returned (.tuple #[.slice none 0 0, .int .i64 110])) ∧ Below w.heap.size w w'

theorem infoStr : (Try.prog.info? 9).map (fun i => (i.zero, i.size, i.bytes)) = some (some (.string ByteArray.empty), 1, 16) := by kernel_rfl
theorem strV_snoc (f : Nat → ByteArray) (p : Nat) : strV ((List.range (p + 1)).map f) = strV ((List.range p).map f) ++ [.string (f p)] := by
  rw [List.range_succ, List.map_append]; unfold strV; rw [List.map_append]; rfl

/-- the size of a string that is a value -/
def szV : Value → Nat
  | .string s => s.size
  | _ => 0

set_option maxHeartbeats 4000000 in
theorem rsh_pack (oa : Option Addr) (cap : Nat) (l : List Rc) (hl : l.length ≤ 1000000) (n : Int) (w : World) (ha : XsAt w oa l) :
    Calls Try.prog 6 #[.slice oa l.length cap, .int .i64 n] w (PackT l n w) := by
  have hh := rsh_hold n w
  have HA := Lib.hid ha
  obtain ⟨len, hlen⟩ : ∃ len, l.length = len := ⟨_, rfl⟩
  have HLEN := Lib.hid hlen
  rw [hlen] at hl ⊢
  clear ha hlen
  by_cases hz : holdN n = 0
  · rw [hz] at hh
    have HH := Lib.hid hh
    have HZ := Lib.hid hz
    clear hh hz
    go_enter Try.func6, Try.ntmps6
    go_wp2_with fail
    refine HH.out.mono ?_
    rintro e w1 ⟨rfl, rfl⟩
    go_wp2_with fail
    go_ret2
    exact ⟨fun _ => rfl, fun h => absurd HZ.out h, fun h => absurd HZ.out h, Below.refl _ _⟩
  · have hin : 16 ≤ n ∧ n ≤ 256 := by
      by_cases hx : 16 ≤ n ∧ n ≤ 256
      · exact hx
      · exact absurd (holdN_out hx) hz
    have hp := holdN_pos hin
    have h28 := holdN_le n
    obtain ⟨m, hhe⟩ : ∃ m, holdN n = m := ⟨_, rfl⟩
    rw [hhe] at hh hz hp h28
    obtain ⟨N, hN⟩ : ∃ N : Nat, n = N := ⟨n.toNat, by omega⟩
    subst hN
    have HHE := Lib.hid hhe
    have HH := Lib.hid hh
    have HZ : Hid (m ≠ 0) := hz
    have HIN := Lib.hid (⟨hin, hp, h28⟩ : (16 ≤ (N : Int) ∧ (N : Int) ≤ 256) ∧ (1 ≤ m ∧ 1 + 9 * (m : Int) ≤ (N : Int)) ∧ m ≤ 28)
    have hh0 : ((m : Int) == 0) = false := by simp; omega
    clear hh hin hp h28 hhe hz
    go_enter Try.func6, Try.ntmps6
    go_wp2_with fail
    refine HH.out.mono ?_
    rintro e w1 ⟨rfl, rfl⟩
    clear HH
    go_wp2_with fail
    go_loopw [7, 8] (fun ov tv wr => ∃ p t : Nat, tv = .int .i64 t ∧ t = min (p * m) len ∧ (p = 0 ∨ (p - 1) * m < len) ∧ Hid (∀ j (hj : j < l.length), j < t → MayX l[j]) ∧ Hid (wr.ownsRow w.heap.size 9 1 ov p (strV ((List.range p).map fun i => pageX N (partX m l i)))) ∧ Hid (Below w.heap.size w wr)) (fun _ tv _ => len - (intOf tv).toNat)
    case atStart => exact ⟨0, 0, rfl, by omega, Or.inl rfl, fun j _ hj => absurd hj (Nat.not_lt_zero _), ⟨rfl, Or.inl ⟨rfl, rfl⟩⟩, Below.refl _ _⟩
    case round =>
      obtain ⟨p, t, rfl, ht, hpp, HMY, HOW, HBL⟩ := hrel
      have HT := Lib.hid ht
      have HPP := Lib.hid hpp
      clear ht hpp
      by_cases hlt : t < len
      · have hltz : (t : Int) < (len : Int) := by omega
        have htp : t = p * m := by have := HT.out; omega
        have HTP := Lib.hid htp
        obtain ⟨xs, hxs⟩ : ∃ xs, partX m l p = xs := ⟨_, rfl⟩
        have hxl : xs.length = min m (len - t) := by rw [← hxs]; unfold partX; rw [List.length_take, List.length_drop, HLEN.out, htp]
        obtain ⟨k, hk⟩ : ∃ k, xs.length = k := ⟨_, rfl⟩
        rw [hk] at hxl
        have h1 := HIN.out.2.1.1
        have h28 := HIN.out.2.2
        have hkb : 1 ≤ k ∧ k ≤ m ∧ k + t ≤ len := by omega
        have hmin : min (m : Int) ((len : Int) - (t : Int)) = (k : Int) := by omega
        have hwk : IntKind.u8.wrap (k : Int) = (k : Int) := by rw [IntKind.wrap_u8]; omega
        have hcv := conv_one (k : Int) wr
        have hac : (⟨#[UInt8.ofNat (k : Int).toNat]⟩ : ByteArray) = accT k (xs.take 0) := rfl
        rw [hac] at hcv
        have HXS := Lib.hid hxs
        have HK := Lib.hid hk
        have HKB := Lib.hid hkb
        clear htp hxs hk hxl hkb hac h1 h28
        go_upto_region 7 with fail
        go_cut [9] (fun s9 wc => s9 = .int .i64 (k : Int) ∧ wc = wr)
        case first =>
          by_cases hmc : (m : Int) ≤ (len : Int) - (t : Int)
          · have HKM : Hid ((m : Int) = (k : Int)) := by show (m : Int) = (k : Int); omega
            clear hmin
            go_wp2_with fail
            go_meet
            case rel => exact ⟨congrArg (Value.int .i64) HKM.out, rfl⟩
          · have HKM : Hid ((len : Int) - (t : Int) = (k : Int)) := by show (len : Int) - (t : Int) = (k : Int); omega
            clear hmin
            go_wp2_with fail
            go_meet
            case rel => exact ⟨congrArg (Value.int .i64) HKM.out, rfl⟩
        case rest =>
          obtain ⟨rfl, rfl⟩ := hcut
          have hb8 : Below wc.heap.size wc (wc.alloc (.cells #[.int .u8 (k : Int)] 5)) := (Below.refl _ _).alloc (Nat.le_refl _) _
          have HB8 := Lib.hid hb8
          clear hb8 hmin
          go_wp2_with fail
          obtain ⟨w8, hw8⟩ : ∃ w8, wc.alloc (.cells #[.int .u8 (k : Int)] 5) = w8 := ⟨_, rfl⟩
          rw [hw8] at HB8 ⊢
          clear hcv hw8
          go_loopw [10, 11] (fun sv iv w2 => ∃ i : Nat, i ≤ k ∧ iv = .int .i64 i ∧ sv = .string (accT k (xs.take i)) ∧ Hid (∀ j (hj : j < l.length), j < t + i → MayX l[j]) ∧ Hid (Below wc.heap.size wc w2)) (fun _ iv _ => k - (intOf iv).toNat)
          case atStart => exact ⟨0, Nat.zero_le _, rfl, rfl, HMY.out, HB8.out⟩
          case round =>
            obtain ⟨i, hik, rfl, rfl, HMI, HB2⟩ := hrel
            by_cases hlt2 : i < k
            · have hltj : (i : Int) < (k : Int) := by omega
              have hti : t + i < l.length := by have := HKB.out; have := HLEN.out; omega
              obtain ⟨b, off, rfl, hbl, hrow⟩ := HA.out (by intro h0; rw [h0] at hti; exact absurd hti (Nat.not_lt_zero _))
              obtain ⟨x, hx⟩ : ∃ x, l[t + i] = x := ⟨_, rfl⟩
              have hr0 := hrow (t + i) hti
              rw [hx] at hr0
              have hbk : Below w.heap.size w wr := HBL.out.trans (HB2.out.mono HBL.out.size)
              have hr2 : wr.rangeAt b (off + (t + i) * 3) [.int .i64 x.k, .int .i64 x.a, .int .i64 x.b] := fun j v hj => by
                rw [World.cell?_of_block (w := w) (hbk.block b hbl)]; exact hr0 j v hj
              have hlt3 : (t : Int) + (i : Int) < (len : Int) := by have := HLEN.out; omega
              have HR2 := Lib.hid hr2
              have HX := Lib.hid hx
              clear hrow hr0 hr2 hbk hx hlt2
              go_wp2_with (refine wpList_load_mid rfl 33 _ rfl b (off + (t + i) * 3) rfl [.int .i64 x.k, .int .i64 x.a, .int .i64 x.b] _ HR2.out Try.underlying33 rfl size_rec ?_)
              refine (rrec_put x.k x.a x.b wr).mono ?_
              rintro e w3 ⟨rfl, hb3⟩
              by_cases hmx : MayR x.k x.a x.b
              · have h1 : putRT x.k x.a x.b = x.txt := if_pos hmx
                have h2 : putRE x.k x.a x.b = 0 := if_pos hmx
                rw [h1, h2]
                have hap : accT k (xs.take i) ++ x.txt = accT k (xs.take (i + 1)) := by
                  have hxi : i < xs.length := by have := HK.out; omega
                  have h7 : xs[i] = x := by
                    have h8 : i < (partX m l p).length := by rw [HXS.out]; exact hxi
                    obtain ⟨h9, h10⟩ := partX_at m l p i h8
                    have h11 : xs[i] = (partX m l p)[i] := by congr 1; exact HXS.out.symm
                    rw [h11, h10]
                    have h12 := HX.out
                    rw [← h12]
                    congr 1
                    rw [HTP.out]
                  rw [flat_take xs i hxi, h7, accT_app]
                have hsz1 : (accT k (xs.take i)).size ≤ 253 := by rw [accT_size, List.length_take]; have := HKB.out; have := HIN.out.2.2; omega
                have hmy : ∀ j (hj : j < l.length), j < t + (i + 1) → MayX l[j] := fun j hj h3 => by
                  rcases Nat.lt_or_ge j (t + i) with h4 | h4
                  · exact HMI.out j hj h4
                  · obtain rfl : j = t + i := by omega
                    have h5 := HX.out
                    rw [h5]; exact hmx
                have hb4 : Below wc.heap.size wc w3 := HB2.out.trans (hb3.mono HB2.out.size)
                have HMY2 := Lib.hid hmy
                have HB4 := Lib.hid hb4
                have HS1 := Lib.hid hsz1
                have HAP := Lib.hid hap
                have hi20 : i ≤ 28 := by have := HKB.out; have := HIN.out.2.2; omega
                clear h1 h2 hmx hmy hb4 hb3 hsz1 hap HMI HB2 HR2 HX HA
                go_wp2_with fail
                case isTrue h => exfalso; have h3 := HS1.out; have h4 : x.txt.size = 9 := recS_size _ _ _; omega
                refine ⟨⟨i + 1, by have := hltj; omega, ?_, congrArg Value.string HAP.out, HMY2.out, HB4.out⟩, ?_⟩
                · show Value.int .i64 _ = Value.int .i64 _; congr 1
                · show k - ((i : Int) + 1).toNat < k - ((i : Int)).toNat; omega
              · have h1 : putRT x.k x.a x.b = ByteArray.empty := if_neg hmx
                have h2 : putRE x.k x.a x.b = 110 := if_neg hmx
                rw [h1, h2]
                have hno : ¬ ∀ y ∈ l, MayX y := fun hal => hmx (by have := hal l[t + i] (List.getElem_mem hti); rw [HX.out] at this; exact this)
                have hb4 : Below w.heap.size w w3 := HBL.out.trans ((HB2.out.trans (hb3.mono HB2.out.size)).mono HBL.out.size)
                have HNO := Lib.hid hno
                have HB4 := Lib.hid hb4
                clear h1 h2 hmx hno hb4 hb3 HMI HB2 HR2 HX HA
                go_wp2_with fail
                go_ret2
                exact ⟨fun h => absurd h (by rw [HHE.out]; exact HZ.out), fun _ h => absurd h HNO.out, fun _ _ => rfl, HB4.out⟩
            · have hik2 : i = k := by omega
              subst hik2
              have hltj : ¬ (i : Int) < (i : Int) := by omega
              clear hlt2
              have hgo : i ≤ 28 := by have := HKB.out; have := HIN.out.2.2; omega
              go_wp2_with fail
              have hxt : xs.take i = xs := List.take_of_length_le (Nat.le_of_eq HK.out)
              rw [hxt]
              have hS : (accT i xs).size = 1 + 9 * i := by rw [accT_size, HK.out]
              have hSN : 1 + 9 * i ≤ N := by have := HKB.out; have := HIN.out; omega
              have hmy : ∀ j (hj : j < l.length), j < t + i → MayX l[j] := HMI.out
              obtain ⟨st, hst⟩ : ∃ st, accT i xs = st := ⟨_, rfl⟩
              rw [hst] at hS ⊢
              have HST := Lib.hid hst
              have HSS := Lib.hid hS
              have HSN := Lib.hid hSN
              have HMY3 := Lib.hid hmy
              have hB5 := HB2.out
              obtain ⟨wq, hwq⟩ : ∃ wq, wr = wq := ⟨_, rfl⟩
              rw [hwq] at hB5 ⊢
              have HB5 := Lib.hid hB5
              clear hB5 HMI HB2 hxt hst hS hSN hmy hltj hgo hik hwq
              go_loopw [10] (fun sv w2 => ∃ j : Nat, st.size + j ≤ N ∧ sv = .string (padT st j) ∧ Hid (Below wc.heap.size wc w2)) (fun sv _ => N - szV sv)
              case atStart => exact ⟨0, by have := HSS.out; have := HSN.out; omega, by rw [padT_zero], HB5.out⟩
              case round =>
                obtain ⟨j, hj, rfl, HB6⟩ := hrel
                have hps : (padT st j).size = st.size + j := padT_size _ _
                by_cases hlt4 : st.size + j < N
                · have hlt5 : (((padT st j).size : Nat) : Int) < (N : Int) := by omega
                  have hcv := conv_one 0 wr
                  have hN := HIN.out.1.2
                  have hbn : Below wc.heap.size wc (wr.alloc (.cells #[.int .u8 0] 5)) := HB6.out.trans ((Below.refl _ _).alloc HB6.out.size _)
                  have HBN := Lib.hid hbn
                  have HPS := Lib.hid hps
                  have HLT := Lib.hid hlt4
                  clear hbn hps hlt4 HB6
                  go_wp2_with fail
                  refine ⟨⟨j + 1, by have := HLT.out; omega, by rw [padT_step], HBN.out⟩, ?_⟩
                  show N - (padT st j ++ ⟨#[0]⟩).size < N - (padT st j).size
                  rw [← padT_step, padT_size, padT_size]; have := HLT.out; omega
                · have hend : st.size + j = N := by omega
                  have hlt5 : ¬ (((padT st j).size : Nat) : Int) < (N : Int) := by omega
                  have hpg : padT st j = pageX N xs := by
                    have h1 := HST.out; have h2 := HSS.out; have h3 := HK.out
                    unfold pageX; rw [h3, h1]; congr 1; omega
                  have hN := HIN.out.1.2
                  rw [hpg] at hlt5 hps ⊢
                  clear hlt4 hps hpg hend
                  obtain ⟨i0, hi0, hz0, hz1, hz2⟩ := info_partsX infoStr
                  have hown := ownsRow_afterX HOW.out (HB6.out)
                  have hbw : Below w.heap.size w wr := HBL.out.trans (HB6.out.mono HBL.out.size)
                  have hcn := cells_newX wr #[.string (pageX N xs)] 9
                  have hp20 : p ≤ 1000000 := by have := HTP.out; have := HIN.out.2.1.1; have h6 : p * 1 ≤ p * m := Nat.mul_le_mul_left _ this; omega
                  have HBW := Lib.hid hbw
                  have HCN := Lib.hid hcn
                  clear hbw hcn HB6
                  go_wp2_with (first
                    | (at_builtin; refine wpList_append_own _ rfl _ _ 24 rfl w.heap.size 9 i0 (.string ByteArray.empty) 1 16 Try.underlying24 hi0 hz0 hz1 hz2 rfl (by decide) _ _ _ rfl (hown.alloc _) ⟨wr.heap.size, 0, none⟩ 1 1 [.string (pageX N xs)] rfl rfl ?c1 ?c2 ?c3 ?c4 ?c5 ?_))
                  case c2 => rfl
                  case c3 => unfold maxLen; omega
                  case c4 => omega
                  case c5 => have := HBW.out.size; omega
                  intro v' w5 hown1 hgrow1 _
                  have hbb := own_belowX hown HBW.out.size hgrow1
                  have HN2 : Hid (w5.ownsRow w.heap.size 9 1 v' (p + 1) (strV ((List.range (p + 1)).map fun i => pageX N (partX m l i)))) := by
                    rw [strV_snoc, HXS.out]; exact hown1
                  have HBN : Hid (Below w.heap.size w w5) := HBW.out.trans hbb
                  have hxl : i = min m (len - p * m) := by
                    have h1 := HK.out; have h2 := HXS.out
                    rw [← h1, ← h2]; unfold partX; rw [List.length_take, List.length_drop, HLEN.out]
                  have hpm : (p + 1) * m = p * m + m := by rw [Nat.add_mul, Nat.one_mul]
                  have htt : t + i = min ((p + 1) * m) len := by have := HTP.out; omega
                  have hpl : p * m < len := by have := HTP.out; omega
                  have HTT := Lib.hid htt
                  have HPL := Lib.hid hpl
                  have hi28 : i ≤ 28 := by have := HKB.out; have := HIN.out.2.2; omega
                  clear hown hown1 hgrow1 hbb HCN HBW hi0 hz0 hz1 hz2 hxl hpm htt hpl
                  go_wp2_with fail
                  go_roundw
                  case rel =>
                    refine ⟨p + 1, t + i, by go_num, HTT.out, Or.inr ?_, HMY3, HN2, HBN⟩
                    rw [Nat.add_sub_cancel]; exact HPL.out
                  case measure => simp [intOf]; have := HKB.out; omega
      · have hltz : ¬ (t : Int) < (len : Int) := by omega
        have hend : p = pagesN m l := by
          have h1 := HT.out; have h2 := HPP.out; have h3 := HIN.out.2.1.1; have h4 := HLEN.out
          unfold pagesN; rw [h4]
          exact pagesN_end h3 (by omega) h2
        have hall : ∀ x ∈ l, MayX x := fun x hx => by
          obtain ⟨j, hj, rfl⟩ := List.mem_iff_getElem.1 hx
          exact HMY.out j hj (by have := HLEN.out; omega)
        have HALL := Lib.hid hall
        have HEND := Lib.hid hend
        clear hall hend hlt
        go_wp2_with fail
        go_ret2
        refine ⟨fun h => absurd h (by rw [HHE.out]; exact HZ.out), fun _ _ => ⟨u7, rfl, ?_⟩, fun _ h => absurd HALL.out h, HBL.out⟩
        have h5 := HOW.out
        rw [HHE.out]
        rw [HEND.out] at h5
        exact h5

end Go.Proofs.Ytklbmlnghindjaa
