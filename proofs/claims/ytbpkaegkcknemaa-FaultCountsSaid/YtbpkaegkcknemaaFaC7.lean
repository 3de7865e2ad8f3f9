/- Package fault, walked: Ahead. -/
import Derived.Test.YtbpkaegkcknemaaFaS8
import Derived.Test.YtbpkaegkcknemaaFaC5
namespace Go.Proofs.Ytbpkaegkcknemaa
set_option maxRecDepth 100000
open Go.RowKit Go.Shelf Go.Sort Go.Proofs

theorem holds_of_row {w : World} {g : Nat} {l : List Fa} (h : FRow w g l) : HoldsK encF 4 w g 0 l.toArray := by
  intro t ht
  have ht2 : t < l.toArray.size * 4 := by simpa using ht
  have hi : t / 4 < l.length := by simp at ht2; omega
  rw [get_flatK _ _ _ _ ht2, Nat.zero_add]
  obtain ⟨h1, h2⟩ := h.2 (t / 4) hi
  have e : t / 4 * 4 + t % 4 = t := by omega
  have hl : l.toArray[t / 4]! = l[t / 4] := by rw [getElem!_pos l.toArray (t / 4) (by simpa using hi)]; simp
  have h4 : t % 4 < (encF l[t / 4]).length := by rw [encF_len]; omega
  refine ⟨?_, ?_⟩
  · have h5 := h1 (t % 4) _ (List.getElem?_eq_getElem h4)
    rw [e] at h5
    rw [h5, hl, getElem!_pos (encF l[t / 4]) (t % 4) h4]
    rfl
  · have h5 := (h2 (t % 4) (by omega)).2
    rwa [e] at h5
theorem row_of_holds {w : World} {g : Nat} {d : Array Fa} (hg : g < w.heap.size) (h : HoldsK encF 4 w g 0 d) : FRow w g d.toList := by
  refine ⟨hg, fun i hi => ⟨fun j v hj => ?_, fun j hj => ?_⟩⟩
  · have hj4 : j < (encF d.toList[i]).length := (List.getElem?_eq_some_iff.1 hj).1
    have hid : i < d.size := by simpa using hi
    have h1 := (HoldsK.cell h (i := i) (c := j) hid (by rw [encF_len] at hj4; exact hj4)).1
    rw [Nat.zero_add] at h1
    rw [h1, getElem!_pos d i hid]
    rw [List.getElem?_eq_getElem hj4] at hj
    have e : (encF d[i])[j]! = (encF d.toList[i])[j] := by
      rw [getElem!_pos (encF d[i]) j (by rw [encF_len]; rw [encF_len] at hj4; exact hj4)]
      simp
    rw [e]; exact hj
  · have hid : i < d.size := by simpa using hi
    have h1 := HoldsK.cell h (i := i) (c := j) hid hj
    rw [Nat.zero_add] at h1
    exact ⟨by rw [h1.1]; rfl, h1.2⟩
theorem og_sorted (w : World) (g off n : Nat) (d : Array Fa) (os : Array Obj) : OG g w (sortWorldK encF 4 w g off n d os) := by
  unfold sortWorldK putRowK putRow mapBlock
  refine ⟨rfl, rfl, rfl, ?_, fun t ht hn => ?_⟩
  · rw [size_grow]; simp [Sort.ahead]
  · rw [heap_grow_old _ _ (by simpa [Sort.ahead] using ht)]
    simp only [Array.getElem?_modify]
    rw [if_neg (fun e => hn (by rw [e]))]
    rfl

theorem fa_sort_nil (g : Nat) (w : World) : Calls Try.prog 28 #[.slice none 0 0, .func (.func g) #[] #[]] w fun e w' => e = .returned (.tuple #[]) ∧ Below w.heap.size w w' := by
  have hi : ∀ w, Calls Try.prog 38 #[.slice none 0 0, .int .i64 0, .int .i64 0, .func (.func g) #[] #[]] w fun e w' => e = .returned (.tuple #[]) ∧ w = w' := fun w => by
    go_enter Try.func38, Try.ntmps38
    go_wp2
    refine wp_loop_rounds 1 ?_
    rw [rounds_succ]
    go_wp2
    go_end0
    exact ⟨rfl, rfl⟩
  have hs : ∀ w, Calls Try.prog 36 #[.slice none 0 0, .int .i64 0, .func (.func g) #[] #[]] w fun e w' => e = .returned (.tuple #[]) ∧ w = w' := fun w => by
    go_enter Try.func36, Try.ntmps36
    go_wp2
    refine wp_loop_rounds 1 ?_
    rw [rounds_succ]
    go_wp2_with fail
    refine (hi w).mono ?_
    rintro r w1 ⟨rfl, rfl⟩
    go_wp2_with fail
    refine wp_loop_rounds 1 ?_
    rw [rounds_succ]
    go_wp2
    go_end0
    exact ⟨rfl, rfl⟩
  clear hi
  go_enter Try.func28, Try.ntmps28
  go_wp2_with fail
  refine (hs w).mono ?_
  rintro r w1 ⟨rfl, rfl⟩
  clear hs
  go_wp2_with fail
  go_end0
  exact ⟨rfl, Below.refl _ _⟩

/-- block B holds a slice of these faults, whose row, if there is one, is block g -/
def AhdAt (w : World) (B g : Nat) (L : List Fa) : Prop := ∃ oa cap, Blk w B #[.slice oa L.length cap] 22 ∧ (L ≠ [] → oa = some ⟨g, 0, none⟩ ∧ FRow w g L)

set_option maxHeartbeats 1000000 in
theorem fa_ahead (oa : Option Addr) (cap : Nat) (l : List Fa) (hl : l.length ≤ 1000000) (w : World) (ha : FsAt w oa l) :
    Calls Try.prog 12 #[.slice oa l.length cap] w fun e w' => ∃ B g L, e = .returned (.func (.func 31) #[] #[.pointer (some ⟨B, 0, none⟩)]) ∧ AhdAt w' B g L ∧ Srt L ∧ St l L ∧ L.length = l.length ∧ w.heap.size ≤ B ∧ Below w.heap.size w w' := by
  have hcl := fa_clone oa cap l hl w ha
  have HCL := Lib.hid hcl
  have eg : ∀ args w, (callFunc 29 args).run Try.prog w = .ok (.enter 29 args) w := enters_of Try.func29 (by kernel_rfl) rfl
  obtain ⟨n, hn⟩ : ∃ n, l.length = n := ⟨_, rfl⟩
  have HN := Lib.hid hn
  have HEG := Lib.hid eg
  rw [hn] at HCL hl ⊢
  clear hcl ha hn eg
  go_enter Try.func12, Try.ntmps12
  go_wp2_with fail
  refine HCL.out.mono ?_
  rintro r w1 ⟨v, rfl, hown, hb1⟩
  have HB1 := Lib.hid hb1
  clear hb1 HCL
  rcases hown with ⟨rfl, hl0⟩ | ⟨g, cap2, rfl, hg, hcap, hrow⟩
  · subst hl0
    have hk := Blk.new w1 #[.slice none 0 0] 22
    have K2 := Lib.hid hk
    have HB2 : Hid (Below w.heap.size w (w1.alloc (.cells #[.slice none 0 0] 22))) := HB1.out.alloc HB1.out.size _
    have HS := Lib.hid (fa_sort_nil 29 (w1.alloc (.cells #[.slice none 0 0] 22)))
    clear hk
    go_wp2_with fail
    refine HS.out.mono ?_
    rintro r w3 ⟨rfl, hb3⟩
    have K3 := Lib.hid (K2.out.after hb3)
    have HB3 := Lib.hid (HB2.out.trans (hb3.mono HB2.out.size))
    clear hb3 K2 HB2 HS
    go_wp2_with fail
    go_ret
    exact ⟨w1.heap.size, 0, [], rfl, ⟨none, 0, K3.out, fun h => absurd rfl h⟩, List.Pairwise.nil, St.refl _, HN.out, HB1.out.size, HB3.out⟩
  · have hcap' : l.length ≤ cap2 := hcap
    have hk := Blk.new w1 #[.slice (some ⟨g, 0, none⟩) l.length cap2] 22
    have hb2 : Below w1.heap.size w1 (w1.alloc (.cells #[.slice (some ⟨g, 0, none⟩) l.length cap2] 22)) := (Below.refl _ w1).alloc (Nat.le_refl _) _
    have hrow2 := hrow.after hb2
    have hR := row4 (holds_of_row hrow2) hrow2.1
    have hsrt := fa_sort 29 HEG.out cmpF_ahead g 0 cap2 l.toArray (w1.alloc (.cells #[.slice (some ⟨g, 0, none⟩) l.length cap2] 22)) hR (by have := HN.out; simp; omega)
    rw [show l.toArray.size = l.length by simp] at hsrt
    have HRK := Lib.hid hR
    have K2 := Lib.hid hk
    have HB2 : Hid (Below w.heap.size w (w1.alloc (.cells #[.slice (some ⟨g, 0, none⟩) l.length cap2] 22))) := HB1.out.alloc HB1.out.size _
    have HS := Lib.hid hsrt
    have HG : Hid (w.heap.size ≤ g ∧ g < w1.heap.size) := ⟨hg, hrow.1⟩
    clear hk hb2 hrow2 hR hsrt hrow hcap
    go_wp2_with fail
    refine HS.out.mono ?_
    rintro r w3 ⟨rfl, d', hz, hsd, hst, hS⟩
    have hL : d'.toList.length = l.length := by simpa using hz
    have hog : OG g (w1.alloc (.cells #[.slice (some ⟨g, 0, none⟩) l.length cap2] 22)) w3 := by
      obtain ⟨m, os, rfl⟩ := hS
      exact og_sorted _ g 0 m d' os
    have hrow3 : FRow w3 g d'.toList := row_of_holds (hS.lt HRK.out.hblk) (hS.holds HRK.out.hblk HRK.out.hH (by simpa using hz))
    have hK3 : Blk w3 w1.heap.size #[.slice (some ⟨g, 0, none⟩) d'.toList.length cap2] 22 := by
      rw [hL]
      unfold Blk
      rw [hog.block w1.heap.size (by simp) (fun e => by have := HG.out.2; have e2 := Option.some.inj e; omega)]
      exact K2.out
    have HROW := Lib.hid hrow3
    have HK3 := Lib.hid hK3
    have HB3 : Hid (Below w.heap.size w w3) := OG.below HB2.out hog (Nat.le_refl _) HG.out.1
    have HSD := Lib.hid hsd
    have HST : Hid (St l d'.toList) := by show St l d'.toList; have h : St l.toArray.toList d'.toList := hst; simpa using h
    have HLL : Hid (d'.toList.length = n) := hL.trans HN.out
    clear hz hsd hst hS hL hog hrow3 hK3 HS K2 HB2 HRK
    go_wp2_with fail
    go_ret
    exact ⟨w1.heap.size, g, d'.toList, rfl, ⟨_, _, HK3.out, fun _ => ⟨rfl, HROW.out⟩⟩, HSD.out, HST.out, HLL.out, HB1.out.size, HB3.out⟩

end Go.Proofs.Ytbpkaegkcknemaa
