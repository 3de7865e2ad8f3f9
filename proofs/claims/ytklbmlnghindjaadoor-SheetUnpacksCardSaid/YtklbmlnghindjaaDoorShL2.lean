/- Layer 12: SheetAgain's walk: a page whose records are packed again is the page. -/
import Derived.Test.YtklbmlnghindjaaDoorShL1
import Derived.Test.YtklbmlnghindjaaDoorShC3
namespace Go.Proofs.YtklbmlnghindjaaDoor
set_option maxRecDepth 100000
open Go.RowKit

theorem sec_bytes (s : ByteArray) (i : Nat) : bs (secT s i) = ((bs s).drop (1 + 9 * i)).take 9 := by
  unfold bs secT
  rw [list_extract, List.drop_take, show 10 + 9 * i - (1 + 9 * i) = 9 by omega]
theorem sec_size (s : ByteArray) (i : Nat) (h : 10 + 9 * i ≤ s.size) : (secT s i).size = 9 := by unfold secT; rw [ByteArray.size_extract]; omega
theorem txt_mk (k a b : Int) : Rc.txt ⟨k, a, b⟩ = recS k a b := rfl
theorem may_mk (k a b : Int) : MayX ⟨k, a, b⟩ = MayR k a b := rfl
theorem rec_sec (s : ByteArray) (i : Nat) (h : 10 + 9 * i ≤ s.size) : (recAt s i).txt = secT s i := by
  unfold recAt
  rw [txt_mk]
  exact rec_again (sec_size s i h)
theorem acc_take (s : ByteArray) (k : Nat) (hk : byteT s 0 = k) (h0 : 0 < s.size) : ∀ i, 1 + 9 * i ≤ s.size → accL k ((List.range i).map (recAt s)) = (bs s).take (1 + 9 * i)
  | 0, h => by
    have e : (bs s)[0]? = some (UInt8.ofNat k) := by
      rw [List.getElem?_eq_getElem (by rw [bs_length]; exact h0)]
      congr 1
      have hb := byteT_get9 s 0 h0
      rw [hk] at hb
      have h2 : s[0].toNat = k := by omega
      rw [← h2, UInt8.ofNat_toNat]
      rfl
    show [UInt8.ofNat k] = (bs s).take 1
    rw [List.take_add_one, e]
    rfl
  | i + 1, h => by
    have ih := acc_take s k hk h0 i (by omega)
    rw [List.range_succ, List.map_append, List.map_singleton, accL_app, ih, rec_sec s i (by omega), sec_bytes, show 1 + 9 * (i + 1) = 1 + 9 * i + 9 by omega]
    exact List.take_add.symm
theorem page_again {s : ByteArray} (h : PageOk s) : pageX s.size (recsT s) = s := by
  obtain ⟨hs, ⟨h1, h2⟩, _, hrest⟩ := h
  have hp := holdN_pos hs
  obtain ⟨k, hk⟩ : ∃ k : Nat, byteT s 0 = k := ⟨(byteT s 0).toNat, by omega⟩
  have hlen : (recsT s).length = k := by rw [recsT_len, hk]; omega
  have hks : 1 + 9 * k ≤ s.size := by omega
  have hacc := acc_take s k hk (by omega) k hks
  have hr : (List.range k).map (recAt s) = recsT s := by unfold recsT; rw [hk]; rfl
  rw [hr] at hacc
  unfold pageX padT
  rw [hlen]
  apply bytes_eq
  show accL k (recsT s) ++ List.replicate (s.size - (1 + 9 * k)) 0 = bs s
  rw [hacc]
  conv => rhs; rw [← List.take_append_drop (1 + 9 * k) (bs s)]
  congr 1
  apply List.ext_getElem
  · rw [List.length_replicate, List.length_drop, bs_length]
  · intro j g1 g2
    rw [List.length_replicate] at g1
    rw [List.getElem_replicate, List.getElem_drop]
    have h3 := hrest (1 + 9 * k + j) (by rw [hk]; omega) (by omega)
    rw [← byteT_get9 s (1 + 9 * k + j) (by omega)] at h3
    have h4 : s[1 + 9 * k + j].toNat = 0 := by omega
    have h5 : s[1 + 9 * k + j] = 0 := by apply UInt8.toNat_inj.1; rw [h4]; rfl
    exact h5.symm
theorem recs_may {s : ByteArray} (h : PageOk s) : ∀ x ∈ recsT s, MayX x := by
  intro x hx
  unfold recsT at hx
  rw [List.mem_map] at hx
  obtain ⟨i, hi, rfl⟩ := hx
  rw [List.mem_range] at hi
  have h2 := (h.each i (by omega)).2
  unfold recAt
  rw [may_mk]
  exact h2
theorem one_page {m : Nat} {l : List Rc} (h0 : 1 ≤ l.length) (h1 : l.length ≤ m) (n : Nat) : pagesN m l = 1 ∧ pagesX n m l = [pageX n l] := by
  have h2 : pagesN m l = 1 := by
    unfold pagesN
    have := (Nat.le_div_iff_mul_le (k := m) (x := 1) (y := l.length + m - 1) (by omega)).2 (by omega)
    have := (Nat.div_lt_iff_lt_mul (k := m) (x := l.length + m - 1) (y := 2) (by omega)).2 (by omega)
    omega
  refine ⟨h2, ?_⟩
  unfold pagesX
  rw [h2]
  show [pageX n (partX m l 0)] = [pageX n l]
  unfold partX
  rw [Nat.zero_mul, List.drop_zero, List.take_of_length_le h1]

set_option maxHeartbeats 2000000 in
theorem walk_SheetAgain (s : ByteArray) (hs : s.size ≤ maxLen) (w : World) :
    Calls Tryd.prog 5 #[.string s] w fun e w' => e = .returned (.bool true) ∧ Below w.heap.size w w' := by
  go_enter Tryd.func5, Tryd.ntmps5
  go_wp2_with fail
  refine (sh_works _).mono ?_
  rintro e w1 ⟨rfl, hb1⟩
  have HB1 := Lib.hid hb1
  clear hb1
  go_wp2_with fail
  refine (sh_unpack s hs w1).mono ?_
  rintro e w2 ⟨h1, h2, hb2⟩
  have HB2 := Lib.hid (HB1.out.trans (hb2.mono HB1.out.size))
  by_cases ho : PageOk s
  · obtain ⟨v, rfl, hown⟩ := h1 ho
    have hp := holdN_pos ho.size
    have hlen := recsT_len s
    have hmany := ho.many
    obtain ⟨n, hn⟩ : ∃ n, (recsT s).length = n := ⟨_, rfl⟩
    have hn1 : 1 ≤ n ∧ n ≤ holdN s.size := by omega
    have hrs := RsAt.own rfl hown
    obtain ⟨a, cap, rfl, hx⟩ := hrs
    have hcap : (recsT s).length ≤ cap := by
      rcases hown.2 with ⟨hv, hz⟩ | ⟨g, c2, cur, hv, _, _, hc, _⟩
      · rw [hz]; exact Nat.zero_le _
      · cases hv; exact hc
    have hpk := sh_pack a cap (recsT s) (by have := holdN_le s.size; omega) hcap s.size w2 hx
    have HO := Lib.hid ho
    rw [hn] at hpk ⊢
    have HPK := Lib.hid hpk
    have HN : Hid ((recsT s).length = n ∧ 1 ≤ n ∧ n ≤ holdN s.size) := ⟨hn, hn1⟩
    have hnz : 1 ≤ (n : Int) := by omega
    clear h1 h2 hb2 ho hown hp hlen hmany hn hn1 hx hcap hpk
    go_wp2_with fail
    refine HPK.out.mono ?_
    rintro e w3 ⟨_, h2, _, hb3⟩
    have h0 : holdN s.size ≠ 0 := by have := HN.out; omega
    obtain ⟨v, rfl, hown⟩ := h2 h0 (recs_may HO.out)
    obtain ⟨p1, p2⟩ := one_page (m := holdN s.size) (l := recsT s) (by have := HN.out; omega) (by have := HN.out; omega) s.size
    rw [p1, Int.toNat_natCast, p2, page_again HO.out] at hown
    obtain ⟨g, cap3, hv⟩ := ownsRow_succ hown
    have hc := cell_of_rowX hown hv 0 (.string s) rfl
    subst hv
    have HB3 := Lib.hid (HB2.out.trans (hb3.mono HB2.out.size))
    clear h2 hb3 h0 hown p1 p2 HPK HN HO
    go_wp2_with fail
    go_ret
    exact ⟨rfl, HB3.out⟩
  · have he := h2 ho
    subst he
    obtain ⟨ee, hee⟩ : ∃ ee, unpE s = ee := ⟨_, rfl⟩
    have h3 : ee = 2 ∨ ee = 3 := by rw [← hee]; unfold unpE; split <;> simp
    rw [hee]
    clear h1 h2 hb2 ho hee
    rcases h3 with rfl | rfl
    all_goals
      go_wp2_with fail
      go_ret
      exact ⟨rfl, HB2.out⟩

end Go.Proofs.YtklbmlnghindjaaDoor
