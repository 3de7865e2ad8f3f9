/- The walk of the law BitsTwice. -/
import Derived.Test.YtcngmhodgpmjfaaBitsWA
namespace Go.Proofs.Ytcngmhodgpmjfaa
open Go.RowKit

/-- a byte with one bit the other way -/
def fb (c : UInt8) (j : Nat) : UInt8 := UInt8.ofNat (bits .xor .u8 (c.toNat : Int) (2 ^ j % 256)).toNat
theorem fb_fb (c : UInt8) (j : Nat) (hj : j < 8) : fb (fb c j) j = c := by
  have h : ∀ n, n < 256 → ∀ j, j < 8 → fb (fb (UInt8.ofNat n) j) j = UInt8.ofNat n := by decide +kernel
  have := h _ c.toNat_lt j hj
  rwa [UInt8.ofNat_toNat] at this
theorem fb_comm (c : UInt8) (j k : Nat) (hj : j < 8) (hk : k < 8) : fb (fb c j) k = fb (fb c k) j := by
  have h : ∀ n, n < 256 → ∀ j, j < 8 → ∀ k, k < 8 → fb (fb (UInt8.ofNat n) j) k = fb (fb (UInt8.ofNat n) k) j := by decide +kernel
  have := h _ c.toNat_lt j hj k hk
  rwa [UInt8.ofNat_toNat] at this
theorem fb_ne (c : UInt8) (j k : Nat) (hj : j < 8) (hk : k < 8) (h0 : fb (fb c j) k = c) : j = k := by
  have h : ∀ n, n < 256 → ∀ j, j < 8 → ∀ k, k < 8 → fb (fb (UInt8.ofNat n) j) k = UInt8.ofNat n → j = k := by decide +kernel
  have := h _ c.toNat_lt j hj k hk
  rw [UInt8.ofNat_toNat] at this
  exact this h0
theorem fb_self (c : UInt8) (j : Nat) (hj : j < 8) : fb c j ≠ c := by
  have h : ∀ n, n < 256 → ∀ j, j < 8 → fb (UInt8.ofNat n) j ≠ UInt8.ofNat n := by decide +kernel
  have := h _ c.toNat_lt j hj
  rwa [UInt8.ofNat_toNat] at this
theorem fb_ones (c : UInt8) (j : Nat) (hj : j < 8) : ones8 (255 - (fb c j).toNat) = ones8 (255 - c.toNat) + 1 ∨ ones8 (255 - c.toNat) = ones8 (255 - (fb c j).toNat) + 1 := by
  have h : ∀ n, n < 256 → ∀ j, j < 8 → ones8 (255 - (fb (UInt8.ofNat n) j).toNat) = ones8 (255 - (UInt8.ofNat n).toNat) + 1 ∨ ones8 (255 - (UInt8.ofNat n).toNat) = ones8 (255 - (fb (UInt8.ofNat n) j).toNat) + 1 := by decide +kernel
  have := h _ c.toNat_lt j hj
  rwa [UInt8.ofNat_toNat] at this

/-- the same of a list of bytes -/
def fl (l : List UInt8) (i j : Nat) : List UInt8 := l.set i (fb (l.getD i 0) j)
theorem fl_length (l : List UInt8) (i j : Nat) : (fl l i j).length = l.length := by simp [fl]
theorem fl_get (l : List UInt8) (i j k : Nat) (hk : k < l.length) : (fl l i j).getD k 0 = if i = k then fb (l.getD i 0) j else l.getD k 0 := by
  unfold fl
  by_cases h : i = k
  · subst h; simp [List.getD, hk]
  · simp [List.getD, h]
theorem list_ext {a b : List UInt8} (h : a.length = b.length) (h2 : ∀ k, k < a.length → a.getD k 0 = b.getD k 0) : a = b := by
  apply List.ext_getElem h
  intro k h3 h4
  have := h2 k h3
  simpa [List.getD, h3, h4] using this
theorem fl_fl (l : List UInt8) (i j : Nat) (hi : i < l.length) (hj : j < 8) : fl (fl l i j) i j = l := by
  apply list_ext (by rw [fl_length, fl_length])
  intro k hk
  rw [fl_length, fl_length] at hk
  rw [fl_get _ _ _ _ (by rw [fl_length]; exact hk), fl_get _ _ _ _ hi, if_pos rfl, fl_get _ _ _ _ hk]
  split
  · subst_vars; exact fb_fb _ _ hj
  · rfl
theorem fl_comm (l : List UInt8) (i j i' j' : Nat) (hi : i < l.length) (hi' : i' < l.length) (hj : j < 8) (hj' : j' < 8) : fl (fl l i j) i' j' = fl (fl l i' j') i j := by
  apply list_ext (by simp only [fl_length])
  intro k hk
  simp only [fl_length] at hk
  rw [fl_get (fl l i j) i' j' k (by rw [fl_length]; exact hk), fl_get (fl l i' j') i j k (by rw [fl_length]; exact hk), fl_get l i j i' hi', fl_get l i' j' i hi, fl_get l i j k hk, fl_get l i' j' k hk]
  by_cases h1 : i = i'
  · subst h1
    by_cases h2 : i = k
    · simp only [h2, if_true]; exact fb_comm _ _ _ hj hj'
    · simp only [h2, if_false]
  · by_cases h2 : i' = k
    · subst h2; simp only [if_true, h1, if_false]
    · by_cases h3 : i = k
      · subst h3; simp only [h2, if_true, if_false, h1]
      · simp only [h2, h3, if_false]
theorem fl_ne (l : List UInt8) (i j i' j' : Nat) (hi : i < l.length) (hi' : i' < l.length) (hj : j < 8) (hj' : j' < 8) (h : fl (fl l i j) i' j' = l) : i = i' ∧ j = j' := by
  have h1 : (fl (fl l i j) i' j').getD i 0 = l.getD i 0 := by rw [h]
  rw [fl_get _ _ _ _ (by rw [fl_length]; exact hi), fl_get _ _ _ _ hi', fl_get _ _ _ _ hi] at h1
  by_cases h2 : i = i'
  · subst h2
    simp only [if_true] at h1
    exact ⟨rfl, fb_ne _ _ _ hj hj' h1⟩
  · simp only [if_true, Ne.symm h2, if_false] at h1
    exact absurd h1 (fb_self _ _ hj)
theorem zs_set : ∀ (l : List UInt8) (i : Nat) (b : UInt8), i < l.length → zs (l.set i b) + ones8 (255 - (l.getD i 0).toNat) = zs l + ones8 (255 - b.toNat)
  | [], _, _, h => by simp at h
  | c :: l, 0, b, _ => by simp [zs, List.getD]; omega
  | c :: l, i + 1, b, h => by
    have := zs_set l i b (by simpa using h)
    simp only [List.set_cons_succ, zs]
    simp only [List.getD, List.getElem?_cons_succ] at this ⊢
    omega
theorem zs_fl (l : List UInt8) (i j : Nat) (hi : i < l.length) (hj : j < 8) : zs (fl l i j) = zs l + 1 ∨ zs l = zs (fl l i j) + 1 := by
  have h1 := zs_set l i (fb (l.getD i 0) j) hi
  have h2 := fb_ones (l.getD i 0) j hj
  unfold fl
  omega

theorem flipS_eq (s : ByteArray) (i j : Nat) (hi : i < s.size) : flipS s i j = ⟨(fl s.data.toList i j).toArray⟩ := by
  unfold flipS
  apply strOfNums_eq
  rw [nums_get s i hi, List.map_set]
  have e : (nums s).map (fun n : Int => UInt8.ofNat n.toNat) = s.data.toList := by
    unfold nums
    rw [List.map_map]
    have e : ((fun n : Int => UInt8.ofNat n.toNat) ∘ fun b : UInt8 => (b.toNat : Int)) = id := by funext b; simp
    rw [e, List.map_id]
  rw [e]
  unfold fl fb
  have hg : s.data.toList.getD i 0 = s[i] := by simp [List.getD, hi]; rfl
  rw [hg]
theorem flipS_list (s : ByteArray) (i j : Nat) (hi : i < s.size) : (flipS s i j).data.toList = fl s.data.toList i j := by rw [flipS_eq s i j hi]
theorem flipS_size (s : ByteArray) (i j : Nat) (hi : i < s.size) : (flipS s i j).size = s.size := by
  have h : (flipS s i j).data.toList.length = s.data.toList.length := by rw [flipS_list s i j hi, fl_length]
  simpa using h
theorem bytes_ext {a b : ByteArray} (h : a.data.toList = b.data.toList) : a = b := by
  cases a; cases b
  simp only at h
  congr 1
  exact Array.toList_inj.1 h
theorem len_list (s : ByteArray) : s.data.toList.length = s.size := by simp
theorem flipS_twice (s : ByteArray) (i j : Nat) (hi : i < s.size) (hj : j < 8) : flipS (flipS s i j) i j = s := by
  apply bytes_ext
  rw [flipS_list _ _ _ (by rw [flipS_size s i j hi]; exact hi), flipS_list s i j hi, fl_fl _ _ _ (by rw [len_list]; exact hi) hj]
theorem flipS_comm (s : ByteArray) (i j i' j' : Nat) (hi : i < s.size) (hi' : i' < s.size) (hj : j < 8) (hj' : j' < 8) : flipS (flipS s i j) i' j' = flipS (flipS s i' j') i j := by
  apply bytes_ext
  rw [flipS_list _ _ _ (by rw [flipS_size s i j hi]; exact hi'), flipS_list s i j hi, flipS_list _ _ _ (by rw [flipS_size s i' j' hi']; exact hi), flipS_list s i' j' hi']
  exact fl_comm _ _ _ _ _ (by rw [len_list]; exact hi) (by rw [len_list]; exact hi') hj hj'
theorem flipS_ne (s : ByteArray) (i j i' j' : Nat) (hi : i < s.size) (hi' : i' < s.size) (hj : j < 8) (hj' : j' < 8) (h : (flipS (flipS s i j) i' j').data.toList = s.data.toList) : i = i' ∧ j = j' := by
  rw [flipS_list _ _ _ (by rw [flipS_size s i j hi]; exact hi'), flipS_list s i j hi] at h
  exact fl_ne _ _ _ _ _ (by rw [len_list]; exact hi) (by rw [len_list]; exact hi') hj hj' h
theorem zsTo_all (s : ByteArray) : zsTo s s.size = zs s.data.toList := by
  unfold zsTo; rw [List.take_of_length_le (by rw [len_list]; omega)]
theorem flipS_zeros (s : ByteArray) (i j : Nat) (hi : i < s.size) (hj : j < 8) : zsTo (flipS s i j) (flipS s i j).size = zsTo s s.size + 1 ∨ zsTo s s.size = zsTo (flipS s i j) (flipS s i j).size + 1 := by
  rw [zsTo_all, zsTo_all, flipS_list s i j hi]
  exact zs_fl _ _ _ (by rw [len_list]; exact hi) hj

def inT (s : ByteArray) (k : Int) : Prop := 0 ≤ k ∧ k / 8 < s.size
theorem flipOut_in {s : ByteArray} {k : Int} (h : inT s k) : flipOut s k = flipS s (k / 8).toNat (k % 8).toNat := if_pos h
theorem flipErr_in {s : ByteArray} {k : Int} (h : inT s k) : flipErr s k = 0 := if_pos h
theorem flipErr_out {s : ByteArray} {k : Int} (h : ¬ inT s k) : flipErr s k = 1 := if_neg h
theorem inT_size {s t : ByteArray} {k : Int} (h : inT s k) (e : t.size = s.size) : inT t k := by unfold inT at *; rw [e]; exact h
theorem out_size {s : ByteArray} {k : Int} (h : inT s k) : (flipOut s k).size = s.size := by
  rw [flipOut_in h]; unfold inT at h; exact flipS_size _ _ _ (by omega)
theorem out_twice {s : ByteArray} {k : Int} (h : inT s k) : flipOut (flipOut s k) k = s := by
  rw [flipOut_in (inT_size h (out_size h)), flipOut_in h]; unfold inT at h; exact flipS_twice _ _ _ (by omega) (by omega)
theorem out_comm {s : ByteArray} {a b : Int} (ha : inT s a) (hb : inT s b) : flipOut (flipOut s a) b = flipOut (flipOut s b) a := by
  rw [flipOut_in (inT_size hb (out_size ha)), flipOut_in (inT_size ha (out_size hb)), flipOut_in ha, flipOut_in hb]
  unfold inT at ha hb; exact flipS_comm _ _ _ _ _ (by omega) (by omega) (by omega) (by omega)
theorem out_ne {s : ByteArray} {a b : Int} (ha : inT s a) (hb : inT s b) (h : (flipOut (flipOut s a) b).data.toList = s.data.toList) : a = b := by
  rw [flipOut_in (inT_size hb (out_size ha)), flipOut_in ha] at h
  unfold inT at ha hb
  have := flipS_ne _ _ _ _ _ (by omega) (by omega) (by omega) (by omega) h
  omega
theorem out_zeros {s : ByteArray} {k : Int} (h : inT s k) : zsTo (flipOut s k) (flipOut s k).size = zsTo s s.size + 1 ∨ zsTo s s.size = zsTo (flipOut s k) (flipOut s k).size + 1 := by
  rw [flipOut_in h]; unfold inT at h; exact flipS_zeros _ _ _ (by omega) (by omega)

theorem zeros_is (t : ByteArray) (z : Nat) (w : World) (hm : t.size ≤ 1000) (hz : zsTo t t.size = z) :
    Calls Try.prog 23 #[.string t] w fun e w' => e = .returned (.int .i64 z) ∧ w = w' := by
  have h := zeros_any t w hm; rwa [hz] at h

set_option maxRecDepth 100000 in
theorem twice_long (s : ByteArray) (a b : Int) (w : World) (h : 1000 < s.size) (hm : (s.size : Int) ≤ 9223372036854775807) :
    Calls Try.prog 9 #[.string s, .int .i64 a, .int .i64 b] w fun e w' => e = .returned (.bool true) ∧ Below w.heap.size w w' := by
  go_enter Try.func9, Try.ntmps9
  go_wp2_with fail
  refine (works_any _).mono ?_
  rintro e w1 ⟨rfl, hb1⟩
  have HB1 := Lib.hid hb1
  clear hb1
  go_wp2_with fail
  go_ret
  exact ⟨rfl, HB1.out⟩

set_option maxHeartbeats 800000 in
set_option maxRecDepth 100000 in
theorem twice_in (s : ByteArray) (a b : Int) (w : World) (h : s.size ≤ 1000) (ha : inT s a) (hb : inT s b) (a1 : a ≤ 9223372036854775807) (b1 : b ≤ 9223372036854775807) :
    Calls Try.prog 9 #[.string s, .int .i64 a, .int .i64 b] w fun e w' => e = .returned (.bool true) ∧ Below w.heap.size w w' := by
  obtain ⟨t, ht⟩ : ∃ t, flipOut s a = t := ⟨_, rfl⟩
  obtain ⟨u, hu⟩ : ∃ u, flipOut s b = u := ⟨_, rfl⟩
  obtain ⟨x, hx⟩ : ∃ x, flipOut t b = x := ⟨_, rfl⟩
  have ea := flipErr_in ha
  have eb := flipErr_in hb
  have hts : t.size = s.size := by rw [← ht]; exact out_size ha
  have hus : u.size = s.size := by rw [← hu]; exact out_size hb
  have eta := flipErr_in (inT_size ha hts)
  have etb := flipErr_in (inT_size hb hts)
  have eua := flipErr_in (inT_size ha hus)
  have hba : flipOut t a = s := by rw [← ht]; exact out_twice ha
  have hya : flipOut u a = x := by rw [← hx, ← hu, ← ht]; exact (out_comm ha hb).symm
  have hne : x.data.toList = s.data.toList → a = b := by rw [← hx, ← ht]; exact out_ne ha hb
  have hxs : a = b → x = s := by intro h; subst h; rw [← hx]; exact hba
  obtain ⟨z, hz⟩ : ∃ z, zsTo s s.size = z := ⟨_, rfl⟩
  obtain ⟨y, hy⟩ : ∃ y, zsTo t t.size = y := ⟨_, rfl⟩
  have hzy : y = z + 1 ∨ z = y + 1 := by rw [← hz, ← hy, ← ht]; exact out_zeros ha
  have HA := Lib.hid ea; have HBe := Lib.hid eb; have HT := Lib.hid ht; have HU := Lib.hid hu; have HX := Lib.hid hx
  have HTA := Lib.hid eta; have HTB := Lib.hid etb; have HUA := Lib.hid eua
  have HBA := Lib.hid hba; have HYA := Lib.hid hya
  have HZ := Lib.hid hz; have HY := Lib.hid hy
  have hzb : z ≤ 8000 := by have := zsTo_le s s.size (Nat.le_refl _); omega
  have hyb : y ≤ 8000 := by have := zsTo_le t t.size (Nat.le_refl _); omega
  have HUS := Lib.hid hus
  have hts2 : t.size ≤ 1000 := by omega
  have hus2 : u.size ≤ 1000 := by omega
  have hlen : ((t.size : Int) == (s.size : Int)) = true := by simp [hts]
  clear ea eb ht hu hx eta etb eua hba hya hz hy hus
  have hts3 := Lib.hid hts
  clear hts
  by_cases hab : a = b
  · have HE := Lib.hid (hxs hab)
    have hab2 : (a == b) = true := by simpa using hab
    clear hne hxs hab
    rcases hzy with hzy | hzy
    all_goals
      subst hzy
      go_enter Try.func9, Try.ntmps9
      go_wp2_with fail
      refine (works_any _).mono ?_
      rintro e w1 ⟨rfl, hb1⟩
      have HB1 := Lib.hid hb1
      clear hb1
      go_wp2_with fail
      refine (flip_all _ _ _ h a1).mono ?_
      rintro e w2 ⟨rfl, hb2⟩
      rw [HA.out, HT.out]
      have HB2 := Lib.hid (HB1.out.trans (hb2.mono HB1.out.size))
      clear hb2 HB1
      go_wp2_with fail
      refine (flip_all _ _ _ h b1).mono ?_
      rintro e w3 ⟨rfl, hb3⟩
      rw [HBe.out, HU.out]
      have HB3 := Lib.hid (HB2.out.trans (hb3.mono HB2.out.size))
      clear hb3 HB2
      go_wp2_with fail
      refine (flip_all _ _ _ hts2 a1).mono ?_
      rintro e w4 ⟨rfl, hb4⟩
      rw [HTA.out, HBA.out]
      have HB4 := Lib.hid (HB3.out.trans (hb4.mono HB3.out.size))
      clear hb4 HB3
      go_wp2_with fail
      refine (flip_all _ _ _ hts2 b1).mono ?_
      rintro e w5 ⟨rfl, hb5⟩
      rw [HTB.out, HX.out, HE.out]
      have HB5 := Lib.hid (HB4.out.trans (hb5.mono HB4.out.size))
      clear hb5 HB4
      go_wp2_with fail
      refine (flip_all _ _ _ hus2 a1).mono ?_
      rintro e w6 ⟨rfl, hb6⟩
      rw [HUA.out, HYA.out, HE.out]
      have HB6 := Lib.hid (HB5.out.trans (hb6.mono HB5.out.size))
      clear hb6 HB5
      go_wp2_with fail
      refine (zeros_is _ _ _ hts2 HY.out).mono ?_
      rintro e w' ⟨rfl, rfl⟩
      go_wp2_with fail
      refine (zeros_is _ _ _ h HZ.out).mono ?_
      rintro e w' ⟨rfl, rfl⟩
      go_wp2_with fail
      go_ret
      exact ⟨rfl, HB6.out⟩
  · have hab2 : (a == b) = false := by simpa using hab
    have hxn : (x.toList == s.toList) = false := by
      rw [ByteArray.toList_eq, ByteArray.toList_eq, beq_eq_false_iff_ne]; exact fun h3 => hab (hne h3)
    clear hne hxs hab
    rcases hzy with hzy | hzy
    all_goals
      subst hzy
      go_enter Try.func9, Try.ntmps9
      go_wp2_with fail
      refine (works_any _).mono ?_
      rintro e w1 ⟨rfl, hb1⟩
      have HB1 := Lib.hid hb1
      clear hb1
      go_wp2_with fail
      refine (flip_all _ _ _ h a1).mono ?_
      rintro e w2 ⟨rfl, hb2⟩
      rw [HA.out, HT.out]
      have HB2 := Lib.hid (HB1.out.trans (hb2.mono HB1.out.size))
      clear hb2 HB1
      go_wp2_with fail
      refine (flip_all _ _ _ h b1).mono ?_
      rintro e w3 ⟨rfl, hb3⟩
      rw [HBe.out, HU.out]
      have HB3 := Lib.hid (HB2.out.trans (hb3.mono HB2.out.size))
      clear hb3 HB2
      go_wp2_with fail
      refine (flip_all _ _ _ hts2 a1).mono ?_
      rintro e w4 ⟨rfl, hb4⟩
      rw [HTA.out, HBA.out]
      have HB4 := Lib.hid (HB3.out.trans (hb4.mono HB3.out.size))
      clear hb4 HB3
      go_wp2_with fail
      refine (flip_all _ _ _ hts2 b1).mono ?_
      rintro e w5 ⟨rfl, hb5⟩
      rw [HTB.out, HX.out]
      have HB5 := Lib.hid (HB4.out.trans (hb5.mono HB4.out.size))
      clear hb5 HB4
      go_wp2_with fail
      refine (flip_all _ _ _ hus2 a1).mono ?_
      rintro e w6 ⟨rfl, hb6⟩
      rw [HUA.out, HYA.out]
      have HB6 := Lib.hid (HB5.out.trans (hb6.mono HB5.out.size))
      clear hb6 HB5
      go_wp2_with fail
      refine (zeros_is _ _ _ hts2 HY.out).mono ?_
      rintro e w' ⟨rfl, rfl⟩
      go_wp2_with fail
      refine (zeros_is _ _ _ h HZ.out).mono ?_
      rintro e w' ⟨rfl, rfl⟩
      go_wp2_with fail
      go_ret
      exact ⟨rfl, HB6.out⟩

theorem where_is (s : ByteArray) (k : Int) : (k < 0 ∧ flipErr s k = 1) ∨ (0 ≤ k ∧ k < 8 * (s.size : Int) ∧ flipErr s k = 0 ∧ inT s k) ∨ (0 ≤ k ∧ 8 * (s.size : Int) ≤ k ∧ flipErr s k = 1) := by
  by_cases h : inT s k
  · have := flipErr_in h
    have h2 := h
    unfold inT at h
    exact Or.inr (Or.inl ⟨by omega, by omega, this, h2⟩)
  · have := flipErr_out h
    unfold inT at h
    by_cases h0 : 0 ≤ k
    · exact Or.inr (Or.inr ⟨h0, by omega, this⟩)
    · exact Or.inl ⟨by omega, this⟩

set_option maxHeartbeats 800000 in
set_option maxRecDepth 100000 in
theorem twice_out (s : ByteArray) (a b : Int) (w : World) (h : s.size ≤ 1000) (hab : ¬ (inT s a ∧ inT s b)) (a1 : a ≤ 9223372036854775807) (b1 : b ≤ 9223372036854775807) :
    Calls Try.prog 9 #[.string s, .int .i64 a, .int .i64 b] w fun e w' => e = .returned (.bool true) ∧ Below w.heap.size w w' := by
  rcases where_is s a with ⟨ha, ea⟩ | ⟨ha0, ha, ea, ia⟩ | ⟨ha0, ha, ea⟩
  all_goals
    rcases where_is s b with ⟨hb, eb⟩ | ⟨hb0, hb, eb, ib⟩ | ⟨hb0, hb, eb⟩
    all_goals first | (exfalso; apply hab; constructor <;> assumption) | skip
    all_goals
      have HA := Lib.hid ea
      have HBe := Lib.hid eb
      clear ea eb hab
      try clear ia
      try clear ib
      go_enter Try.func9, Try.ntmps9
      go_wp2_with fail
      refine (works_any _).mono ?_
      rintro e w1 ⟨rfl, hb1⟩
      have HB1 := Lib.hid hb1
      clear hb1
      go_wp2_with fail
      refine (flip_all _ _ _ h a1).mono ?_
      rintro e w2 ⟨rfl, hb2⟩
      rw [HA.out]
      have HB2 := Lib.hid (HB1.out.trans (hb2.mono HB1.out.size))
      clear hb2 HB1
      go_wp2_with fail
      refine (flip_all _ _ _ h b1).mono ?_
      rintro e w3 ⟨rfl, hb3⟩
      rw [HBe.out]
      have HB3 := Lib.hid (HB2.out.trans (hb3.mono HB2.out.size))
      clear hb3 HB2
      go_wp2_with fail
      go_ret
      exact ⟨ret_bool (by simp; try omega), HB3.out⟩

theorem walk_BitsTwice (s : ByteArray) (a b : Int) (hs : s.size ≤ maxLen) (wa : (Lit.int .i64 a).wf = true) (wb : (Lit.int .i64 b).wf = true) (w : World) :
    Calls Try.prog 9 #[.string s, .int .i64 a, .int .i64 b] w fun e w' => e = .returned (.bool true) ∧ Below w.heap.size w w' := by
  have ba := bounds_i64 wa
  have bb := bounds_i64 wb
  by_cases h : s.size ≤ 1000
  · by_cases hab : inT s a ∧ inT s b
    · exact twice_in s a b w h hab.1 hab.2 ba.2 bb.2
    · exact twice_out s a b w h hab ba.2 bb.2
  · exact twice_long s a b w (by omega) (by unfold maxLen at hs; omega)

end Go.Proofs.Ytcngmhodgpmjfaa
