/- Package sheet, walked: Each. -/
import Derived.Test.YtklbmlnghindjaaDoorShC7
import Derived.RangeFuncBox
import Derived.OwnWalkIn
namespace Go.Proofs.YtklbmlnghindjaaDoor
set_option maxRecDepth 100000
open Go.RowKit

/-- a slice of texts, wherever it lies -/
def TxAt (w : World) (oa : Option Addr) (l : List ByteArray) : Prop := l ≠ [] → ∃ b off, oa = some ⟨b, off, none⟩ ∧ b < w.heap.size ∧ ∀ i (hi : i < l.length), w.cell? ⟨b, off + i, none⟩ = some (.string l[i])
theorem TxAt.below {w w' : World} {oa : Option Addr} {l : List ByteArray} (h : TxAt w oa l) (hb : Below w.heap.size w w') : TxAt w' oa l := by
  intro hl
  obtain ⟨b, off, ho, hlt, hc⟩ := h hl
  exact ⟨b, off, ho, Nat.lt_of_lt_of_le hlt hb.size, fun i hi => by rw [World.cell?_of_block (w := w) (hb.block b hlt)]; exact hc i hi⟩

set_option maxHeartbeats 2000000 in
theorem sh_clone (oa : Option Addr) (cap : Nat) (l : List ByteArray) (hl : l.length ≤ 1000000) (w : World) (ha : TxAt w oa l) :
    Calls Tryd.prog 19 #[.slice oa l.length cap] w fun e w' => ∃ v, e = .returned v ∧ w'.ownsRow w.heap.size 9 1 v l.length (strV l) ∧ Below w.heap.size w w' := by
  cases oa with
  | none =>
    have h0 : l = [] := by
      apply Classical.byContradiction
      intro h
      obtain ⟨b, off, hc, _⟩ := ha h
      cases hc
    subst h0
    have q : ∀ w, Sem.run Tryd.prog (binOp .eql 22 (.slice none 0 cap) (.slice none 0 0)) w = .ok (.bool true) w := fun w => Lib.run_eql_slice_nil w _ 9 _ 0 cap 0 0 Tryd.underlying22
    show Calls Tryd.prog _ #[.slice none 0 cap] w _
    go_enter Tryd.func19, Tryd.ntmps19
    go_wp2_with fail
    go_ret
    exact ⟨_, rfl, World.ownsRow_nil _ _ _ _, Below.refl _ _⟩
  | some a =>
    obtain ⟨i0, hi, hz0, hz1, hz2⟩ := info_partsX infoStr
    have q : ∀ w, Sem.run Tryd.prog (binOp .eql 22 (.slice (some a) l.length cap) (.slice none 0 0)) w = .ok (.bool false) w := fun w => Lib.run_eql_slice_nil w _ 9 _ l.length cap 0 0 Tryd.underlying22
    have HCL : Hid (∀ j u, (strV l)[j]? = some u → w.cell? (a.add j) = some u) := fun j u hj => by
      have hjn : j < l.length := by
        have := (List.getElem?_eq_some_iff.1 hj).1
        simpa [strV] using this
      obtain ⟨b, off, hab, _, hc⟩ := ha (fun e => by rw [e] at hjn; simp at hjn)
      cases hab
      have h3 := hc j hjn
      rw [Addr.add_lit, h3]
      simpa [strV, hjn] using hj
    obtain ⟨n, hn⟩ : ∃ n, l.length = n := ⟨_, rfl⟩
    have HN := Lib.hid hn
    rw [hn] at q ⊢
    rw [hn] at hl
    clear ha hn
    go_enter Tryd.func19, Tryd.ntmps19
    go_wp2_with (at_builtin; refine wpList_append_own _ rfl _ _ 22 rfl w.heap.size 9 i0 (.string ByteArray.empty) 1 16 Tryd.underlying22 hi hz0 hz1 hz2 rfl (by decide) _ _ _ rfl (World.ownsRow_made w #[] 0 (Nat.le_refl _) (Nat.zero_le _) rfl) a n cap (strV l) rfl ?c1 ?c2 ?c3 ?c4 ?c5 ?c6 ?_)
    case c1 => rw [Nat.mul_one, ← HN.out]; simp [strV]
    case c2 =>
      intro j u hj
      exact Lib.cell?_alloc_some _ (HCL.out j u hj)
    case c3 =>
      intro u hu
      simp [strV] at hu
      obtain ⟨x, _, rfl⟩ := hu
      rfl
    case c4 => unfold maxLen; omega
    case c5 => omega
    case c6 => simp
    intro v' w1 hown hgrow hnil
    have hb : Below w.heap.size w w1 := ((Below.refl _ w).alloc (Nat.le_refl _) _).grown hgrow (by simp) (by intro k hk; simp [Value.ownBlock] at hk; omega)
    have HB := Lib.hid hb
    have HOW : Hid (w1.ownsRow w.heap.size 9 1 v' n (strV l)) := hown
    clear hown hgrow hnil hb HCL
    go_wp2_with fail
    go_ret
    exact ⟨_, rfl, HOW.out, HB.out⟩

theorem sh_each (oa : Option Addr) (cap : Nat) (l : List ByteArray) (hl : l.length ≤ 1000000) (w : World) (ha : TxAt w oa l) :
    Calls Tryd.prog 11 #[.slice oa l.length cap] w fun e w' => ∃ B g, e = .returned (.func (.func 20) #[] #[.pointer (some ⟨B, 0, none⟩)]) ∧ CapS w' B g l ∧ (B < w'.heap.size ∧ g < w'.heap.size) ∧ (w.heap.size ≤ B ∧ w.heap.size ≤ g) ∧ Below w.heap.size w w' := by
  have hcl := sh_clone oa cap l hl w ha
  obtain ⟨n, hn⟩ : ∃ n, l.length = n := ⟨_, rfl⟩
  have HN := Lib.hid hn
  rw [hn] at hcl ⊢
  clear hn ha
  go_enter Tryd.func11, Tryd.ntmps11
  go_wp2_with fail
  refine hcl.mono ?_
  rintro e w1 ⟨v, rfl, hown, hb⟩
  obtain ⟨a, cp, hv⟩ : ∃ a cp, v = .slice a n cp := by
    rcases hown.2 with ⟨h, h0⟩ | ⟨g, c2, cur, h, _⟩
    · exact ⟨none, 0, by rw [h, h0]⟩
    · exact ⟨_, c2, h⟩
  subst hv
  have HOW := Lib.hid hown
  have HB := Lib.hid hb
  clear hown hb hcl
  go_wp2_with fail
  go_ret
  have hbl : Below w.heap.size w (w1.alloc (.cells #[.slice a n cp] 22)) := HB.out.alloc HB.out.size _
  have hkb := Blk.new w1 #[.slice a n cp] 22
  have hts := TsAt.own HN.out.symm HOW.out
  obtain ⟨a', cp', hv, hc⟩ := hts
  cases hv
  have hsz := HB.out.size
  by_cases hne : l = []
  · refine ⟨w1.heap.size, w1.heap.size, rfl, ⟨a, cp, by rw [HN.out]; exact hkb.cell 0, fun h => absurd hne h, fun k hk => absurd hk (by rw [hne]; simp)⟩, ⟨by simp, by simp⟩, ⟨hsz, hsz⟩, hbl⟩
  · have h0 : 0 < l.length := List.length_pos_iff.2 hne
    rcases HOW.out.2 with ⟨_, h1⟩ | ⟨g, c2, cur, h, hbg, hgw, _⟩
    · have := HN.out; omega
    · cases h
      have hlt : g < w1.heap.size := (Array.getElem?_eq_some_iff.1 hgw).1
      refine ⟨w1.heap.size, g, rfl, ⟨some ⟨g, 0, none⟩, _, by rw [HN.out]; exact hkb.cell 0, fun _ => rfl, fun k hk => ?_⟩, ⟨by simp, by simp; omega⟩, ⟨hsz, hbg⟩, hbl⟩
      obtain ⟨g', o', he, hcc⟩ := hc k hk
      cases he
      rw [Nat.zero_add] at hcc
      exact Lib.cell?_alloc_some _ hcc

theorem each_stops (m : Nat) (hm : 1 ≤ m) (B g : Nat) (L : List ByteArray) (hLn : L.length ≤ 1000000) (hLs : ∀ p ∈ L, p.size ≤ maxLen) (w : World) (hat : CapS w B g L) (hBg : B < w.heap.size ∧ g < w.heap.size) :
    SeqStopsK Fence.wide m Tryd.prog 20 #[.pointer (some ⟨B, 0, none⟩)] encE (KpE [B, g] w.heap.size)
      (fun ys => ys = toldE 0 L) (fun pre => ∃ k, k ≤ (toldE 0 L).length ∧ pre = (toldE 0 L).take k) (toldE 0 L).length w := fun l J Jx W hW hA _ hY h0 =>
  each_in m hm l B g w.heap.size L hLn hLs J Jx W hW.size ⟨Nat.lt_of_lt_of_le hBg.1 hW.size, Nat.lt_of_lt_of_le hBg.2 hW.size⟩ hA hY (hat.keep (KeepB.of_below hW (by simp; exact hBg))) h0
theorem each_enters : ∀ args W, (callFunc 20 args).run Tryd.prog W = .ok (.enter 20 args) W := enters_of Tryd.func20 (by kernel_rfl) rfl

end Go.Proofs.YtklbmlnghindjaaDoor
