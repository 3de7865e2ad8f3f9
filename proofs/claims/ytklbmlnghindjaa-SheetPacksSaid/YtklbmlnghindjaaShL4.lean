/- Layer 12: SheetPacks's walk. -/
import Derived.Test.YtklbmlnghindjaaShL1
import Derived.Test.YtklbmlnghindjaaShS
namespace Go.Proofs.Ytklbmlnghindjaa
set_option maxRecDepth 100000
open Go.RowKit

/-- what Pack answers, as plain functions -/
noncomputable def packE (l : List Rc) (n : Int) : Int := open Classical in if holdN n = 0 then 2 else if ∀ x ∈ l, MayX x then 0 else 110
noncomputable def packL (l : List Rc) (n : Int) : List ByteArray := open Classical in if holdN n ≠ 0 ∧ ∀ x ∈ l, MayX x then pagesX n.toNat (holdN n) l else []
theorem pagesX_len (n h : Nat) (l : List Rc) : (pagesX n h l).length = pagesN h l := by unfold pagesX; rw [List.length_map, List.length_range]
theorem packT_all {l : List Rc} {n : Int} {w w' : World} {e : Ending} (h : PackT l n w e w') : ∃ v, e = .returned (.tuple #[v, .int .i64 (packE l n)]) ∧ w'.ownsRow w.heap.size 9 1 v (packL l n).length (strV (packL l n)) ∧ Below w.heap.size w w' := by
  obtain ⟨h1, h2, h3, h4⟩ := h
  unfold packE packL
  by_cases hz : holdN n = 0
  · rw [if_pos hz, if_neg (fun h => h.1 hz)]
    exact ⟨_, h1 hz, World.ownsRow_nil _ _ _ _, h4⟩
  · by_cases hm : ∀ x ∈ l, MayX x
    · obtain ⟨v, he, ho⟩ := h2 hz hm
      rw [if_neg hz, if_pos hm, if_pos ⟨hz, hm⟩, pagesX_len]
      exact ⟨v, he, ho, h4⟩
    · rw [if_neg hz, if_neg hm, if_neg (fun h => hm h.2)]
      exact ⟨_, h3 hz hm, World.ownsRow_nil _ _ _ _, h4⟩
theorem packL_len (l : List Rc) (n : Int) : (packL l n).length ≤ l.length + 28 := by
  unfold packL
  split
  · rw [pagesX_len]; unfold pagesN
    have := Nat.div_le_self (l.length + holdN n - 1) (holdN n)
    have := holdN_le n
    omega
  · simp

set_option maxHeartbeats 2000000 in
theorem walk_SheetPacks (oa : Option Addr) (cap : Nat) (l : List Rc) (n : Int) (hlc : l.length ≤ cap ∧ cap ≤ maxLen) (_ : (Lit.int .i64 n).wf = true) (w : World) (ha : XsAt w oa l) :
    Calls Try.prog 3 #[.slice oa l.length cap, .int .i64 n] w fun e w' => e = .returned (.bool true) ∧ Below w.heap.size w w' := by
  have HA := Lib.hid ha
  obtain ⟨len, hlen⟩ : ∃ len, l.length = len := ⟨_, rfl⟩
  have HLEN := Lib.hid hlen
  have HCAP := Lib.hid hlc.1
  have hml2 : (len : Int) ≤ 9223372036854775807 := by have := hlc.1; have := hlc.2; unfold maxLen at *; omega
  rw [hlen]
  clear ha hlen hlc
  by_cases hbig : 200 < len
  · have hbi : (200 : Int) < (len : Int) := by omega
    go_enter Try.func3, Try.ntmps3
    go_wp2_with fail
    refine (sh_works _).mono ?_
    rintro e w1 ⟨rfl, hb1⟩
    have HB1 := Lib.hid hb1
    clear hb1
    go_wp2_with fail
    go_ret
    exact ⟨rfl, HB1.out⟩
  · have hbi : ¬ (200 : Int) < (len : Int) := by omega
    have hl200 : len ≤ 200 := by omega
    have hpk := sh_pack oa cap l (by rw [HLEN.out]; omega) HCAP.out n w HA.out
    rw [HLEN.out] at hpk
    have HPK := Lib.hid hpk
    clear hbig hpk
    go_enter Try.func3, Try.ntmps3
    go_wp2_with fail
    refine HPK.out.mono ?_
    rintro e w1 h1
    obtain ⟨v, rfl, hown, hb1⟩ := packT_all h1
    have HB1 := Lib.hid hb1
    have HOWN := Lib.hid hown
    have hrp := rsh_pack oa cap l (by rw [HLEN.out]; omega) n w1 (HA.out.below hb1)
    rw [HLEN.out] at hrp
    have HRP := Lib.hid hrp
    obtain ⟨ec, hec⟩ : ∃ ec, packE l n = ec := ⟨_, rfl⟩
    have HEC := Lib.hid hec
    rw [hec]
    clear h1 hb1 hown hrp HPK hec
    go_wp2_with fail
    refine HRP.out.mono ?_
    rintro e w2 h2
    obtain ⟨u, rfl, hown2, hb2⟩ := packT_all h2
    rw [HEC.out]
    have HB2 := Lib.hid (HB1.out.trans (hb2.mono HB1.out.size))
    have hown1 := ownsRow_afterX HOWN.out hb2
    have hsame := book_texts w2 v u (packL l n) (by have := packL_len l n; rw [HLEN.out] at this; omega) (TsAt.own rfl hown1) (TsAt.own rfl hown2)
    have HSAME := Lib.hid hsame
    have HOWN1 := Lib.hid hown1
    have hn : (packL l n).length ≤ 1000000 := by have := packL_len l n; rw [HLEN.out] at this; omega
    have HN := Lib.hid hn
    clear h2 hown2 hb2 hown1 hsame HRP HOWN HB1 hn HEC
    go_wp2_with fail
    refine HSAME.out.mono ?_
    rintro e w3 ⟨rfl, hb3⟩
    have HB3 := Lib.hid (HB2.out.trans (hb3.mono HB2.out.size))
    have HOWN3 := Lib.hid (ownsRow_afterX HOWN1.out hb3)
    have hh := sh_hold n w3
    obtain ⟨m, hm⟩ : ∃ m, holdN n = m := ⟨_, rfl⟩
    have hr := rsh_hold n w3
    rw [hm] at hh hr
    have HH := Lib.hid hh
    have HR := Lib.hid hr
    clear hb3 HSAME HOWN1 HB2 hh hr hm
    go_wp2_with fail
    refine HH.out.mono ?_
    rintro e w4 ⟨rfl, rfl⟩
    go_wp2_with fail
    refine HR.out.mono ?_
    rintro e w4 ⟨rfl, rfl⟩
    clear HH HR
    have hsp := spoil_texts w3 w.heap.size _ v _ HN.out HOWN3.out
    have HSP := Lib.hid hsp
    clear hsp
    go_wp2_with fail
    refine HSP.out.mono ?_
    rintro e w5 ⟨rfl, hg5⟩
    have HB5 : Hid (Below w.heap.size w w5) := HB3.out.grown hg5 HB3.out.size (fun r e => (HOWN3.out.lt r e).1)
    clear hg5 HSP HOWN3 HB3
    go_wp2_with fail
    refine (sh_works _).mono ?_
    rintro e w6 ⟨rfl, hb6⟩
    have HB6 := Lib.hid (HB5.out.trans (hb6.mono HB5.out.size))
    clear hb6 HB5
    go_wp2_with fail
    go_ret
    exact ⟨rfl, HB6.out⟩

end Go.Proofs.Ytklbmlnghindjaa
