/- Package sheet, walked: Unpack. -/
import Derived.Test.YtklbmlnghindjaaDoorShC2
namespace Go.Proofs.YtklbmlnghindjaaDoor
set_option maxRecDepth 100000
open Go.RowKit

theorem partT_sec (s : ByteArray) (n i : Nat) (hi : i < n) (_ : 1 + 9 * n ≤ s.size) : partT (s.extract 1 (1 + 9 * n)) i = secT s i := by
  unfold partT secT
  rw [ByteArray.extract_extract]
  congr 1 <;> omega
theorem recP_sec (s : ByteArray) (n : Nat) (hs : 1 + 9 * n ≤ s.size) : (List.range n).map (recP (s.extract 1 (1 + 9 * n))) = (List.range n).map (recAt s) := by
  apply List.map_congr_left
  intro i hi
  unfold recP recAt
  rw [partT_sec s n i (List.mem_range.1 hi) hs]
theorem noughts_rest (s : ByteArray) (a : Nat) (ha : a ≤ s.size) : Noughts (s.extract a s.size) ↔ ∀ i : Nat, a ≤ i → i < s.size → byteT s i = 0 := by
  constructor
  · intro h i h1 h2
    have h3 := h (i - a) (by rw [ByteArray.size_extract]; omega)
    rw [byteT_ext s a s.size (i - a) (Nat.le_refl _) (by omega)] at h3
    rwa [show a + (i - a) = i by omega] at h3
  · intro h i hi
    rw [ByteArray.size_extract] at hi
    rw [byteT_ext s a s.size i (Nat.le_refl _) (by omega)]
    exact h _ (by omega) (by omega)

set_option maxHeartbeats 2000000 in
theorem sh_unpack (s : ByteArray) (hs : s.size ≤ maxLen) (w : World) : Calls Tryd.prog 7 #[.string s] w (UnpT s w) := by
  have hsz2 : (s.size : Int) ≤ 9223372036854775807 := by unfold maxLen at hs; omega
  by_cases h : 16 ≤ (s.size : Int) ∧ (s.size : Int) ≤ 256
  · have hp := holdN_pos h
    have he : unpE s = 3 := if_pos h
    obtain ⟨m, hm⟩ : ∃ m, holdN s.size = m := ⟨_, rfl⟩
    have hh := sh_hold s.size w
    rw [hm] at hp hh
    have HH := Lib.hid hh
    have HP := Lib.hid hp
    have HE := Lib.hid he
    have HM := Lib.hid hm
    have h0 : 0 < s.size := by omega
    have hlt0 : (0 : Int) < (s.size : Int) := by omega
    have hb := byteT_get9 s 0 h0
    obtain ⟨n, hn⟩ : ∃ n : Nat, s[0].toNat = n := ⟨_, rfl⟩
    rw [hn] at hb
    have HB := Lib.hid hb
    have HN := Lib.hid hn
    have hn256 : n < 256 := by rw [← hn]; exact s[0].toNat_lt
    have hwn : IntKind.i64.wrap (n : Int) = (n : Int) := by rw [IntKind.wrap_i64]; omega
    have HSZ := Lib.hid h
    have HMLE : Hid (m ≤ 28) := by show m ≤ 28; rw [← hm]; exact holdN_le _
    have hmz : ((m : Int) == 0) = false := by simp; omega
    clear hh hp he hm hb h
    by_cases hn0 : n = 0
    · have hno : ¬ PageOk s := fun hp => by
        have h3 := hp.many
        rw [← HB.out, HM.out] at h3
        omega
      have HNO := Lib.hid hno
      subst hn0
      clear hno
      go_enter Tryd.func7, Tryd.ntmps7
      go_wp2_with fail
      refine HH.out.mono ?_
      rintro e w1 ⟨rfl, rfl⟩
      clear HH
      go_wp2_with fail
      go_ret2
      exact ⟨fun h => absurd h HNO.out, fun _ => by rw [HE.out]; rfl, Below.refl _ _⟩
    · have hnz : ((n : Int) == 0) = false := by simp; omega
      by_cases hmany : n ≤ m
      · have hn2 : ¬ (m : Int) < (n : Int) := by omega
        have hn3 : decide ((m : Int) < (n : Int)) = false := decide_eq_false hn2
        have hend : 1 + (n : Int) * 9 ≤ (s.size : Int) := by have := HP.out; omega
        have hendN : 1 + 9 * n ≤ s.size := by omega
        have hx1 : ((1 : Int) + (n : Int) * 9).toNat = 1 + 9 * n := by omega
        obtain ⟨q, hq⟩ : ∃ q, s.extract (1 + 9 * n) s.size = q := ⟨_, rfl⟩
        have hqs : q.size ≤ 1000000 := by rw [← hq, ByteArray.size_extract]; have := HSZ.out; omega
        have hno := sh_noughts q w hqs
        have hrest : Noughts q ↔ ∀ i : Nat, 1 + 9 * n ≤ i → i < s.size → byteT s i = 0 := by rw [← hq]; exact noughts_rest s _ hendN
        have HQN := Lib.hid hno
        have HREST := Lib.hid hrest
        have HQ := Lib.hid hq
        have HENDN := Lib.hid hendN
        have HMANY : Hid (1 ≤ n ∧ n ≤ m) := ⟨by omega, hmany⟩
        clear hqs hno hrest hmany hendN hn0
        go_enter Tryd.func7, Tryd.ntmps7
        go_wp2_with fail
        refine HH.out.mono ?_
        rintro e w1 ⟨rfl, rfl⟩
        clear HH
        go_wp2_with fail
        refine HQN.out.mono ?_
        rintro e w1 ⟨rfl, rfl⟩
        clear HQN
        by_cases hN : Noughts q
        · have hd : decide (Noughts q) = true := decide_eq_true hN
          rw [hd]
          clear hd
          obtain ⟨p, hpp⟩ : ∃ p, s.extract 1 (1 + 9 * n) = p := ⟨_, rfl⟩
          have hps : p.size = 9 * n := by rw [← hpp, ByteArray.size_extract]; have := HENDN.out; omega
          have htk := sh_take p n (by have := HMANY.out; have := HMLE.out; omega) hps w
          have heach : (∀ i, i < n → OkR (partT p i)) ↔ ∀ i : Nat, (i : Int) < byteT s 0 → OkR (secT s i) := by
            rw [← HB.out]
            constructor
            · intro h i hi; rw [← partT_sec s n i (by omega) HENDN.out, hpp]; exact h i (by omega)
            · intro h i hi; rw [← hpp, partT_sec s n i hi HENDN.out]; exact h i (by omega)
          have hok : (∀ i, i < n → OkR (partT p i)) → PageOk s := fun h => ⟨HSZ.out, ⟨by rw [← HB.out]; have := HMANY.out; omega, by rw [← HB.out, HM.out]; have := HMANY.out; omega⟩, heach.1 h, fun i h1 h2 => HREST.out.1 hN i (by rw [← HB.out] at h1; omega) h2⟩
          have hnb : (byteT s 0).toNat = n := by rw [← HB.out]; omega
          have hrec : (List.range n).map (recP p) = recsT s := by rw [← hpp, recP_sec s n HENDN.out]; unfold recsT; rw [hnb]
          have HTK := Lib.hid htk
          have HEACH := Lib.hid heach
          have HOK := Lib.hid hok
          have HREC : Hid ((List.range n).map (recP p) = recsT s ∧ (recsT s).length = n) := ⟨hrec, by rw [recsT_len, hnb]⟩
          clear htk heach hok hnb hrec hps hN
          go_wp2_with fail
          refine HTK.out.mono ?_
          rintro e w2 ⟨h1, h2, hb2⟩
          by_cases ho : ∀ i, i < n → OkR (partT p i)
          · obtain ⟨v, rfl, hown⟩ := h1 ho
            have HP2 := Lib.hid (HOK.out ho)
            have HOWN : Hid (w2.ownsRow w.heap.size 32 3 v (recsT s).length (flatX (recsT s))) := by
              show World.ownsRow _ _ _ _ _ _ _
              rw [← HREC.out.1, List.length_map, List.length_range]; exact hown
            have HB2 := Lib.hid hb2
            clear h1 h2 hb2 hown HTK HEACH HOK ho
            go_wp2_with fail
            go_ret2
            exact ⟨fun _ => ⟨_, rfl, HOWN.out⟩, fun h => absurd HP2.out h, HB2.out⟩
          · have he := h2 ho
            subst he
            have HNO : Hid (¬ PageOk s) := fun hp => ho (HEACH.out.2 hp.each)
            have HB2 := Lib.hid hb2
            clear h1 h2 hb2 HTK HEACH HOK ho
            go_wp2_with fail
            go_ret2
            exact ⟨fun h => absurd h HNO.out, fun _ => by rw [HE.out]; rfl, HB2.out⟩
        · have hd : decide (Noughts q) = false := decide_eq_false hN
          rw [hd]
          have HNO : Hid (¬ PageOk s) := fun hp => hN (HREST.out.2 fun i h1 h2 => hp.rest i (by rw [← HB.out]; omega) h2)
          clear hd hN
          go_wp2_with fail
          go_ret2
          exact ⟨fun h => absurd h HNO.out, fun _ => by rw [HE.out]; rfl, Below.refl _ _⟩
      · have hn2 : (m : Int) < (n : Int) := by omega
        have hn3 : decide ((m : Int) < (n : Int)) = true := decide_eq_true hn2
        have hno : ¬ PageOk s := fun hp => by
          have h3 := hp.many
          rw [← HB.out, HM.out] at h3
          omega
        have HNO := Lib.hid hno
        clear hno hmany hn0
        go_enter Tryd.func7, Tryd.ntmps7
        go_wp2_with fail
        refine HH.out.mono ?_
        rintro e w1 ⟨rfl, rfl⟩
        clear HH
        go_wp2_with fail
        go_ret2
        exact ⟨fun h => absurd h HNO.out, fun _ => by rw [HE.out]; rfl, Below.refl _ _⟩
  · have hz := holdN_out h
    have he : unpE s = 2 := if_neg h
    have hh := sh_hold s.size w
    rw [hz] at hh
    have HH := Lib.hid hh
    have HE := Lib.hid he
    have HNO : Hid (¬ PageOk s) := fun hp => h hp.size
    clear hh he hz h
    go_enter Tryd.func7, Tryd.ntmps7
    go_wp2_with fail
    refine HH.out.mono ?_
    rintro e w1 ⟨rfl, rfl⟩
    go_wp2_with fail
    go_ret2
    exact ⟨fun h => absurd h HNO.out, fun _ => by rw [HE.out]; rfl, Below.refl _ _⟩

end Go.Proofs.YtklbmlnghindjaaDoor
