/- Parameters that are slices of texts: opened; shut again by Below.trod. -/
import Derived.Test.YtklbmlnghindjaaDoorArgs
import Derived.Test.YtklbmlnghindjaaDoorShC8
import Derived.Deep.Strs
namespace Go.Proofs.YtklbmlnghindjaaDoor
set_option maxRecDepth 100000
open Go.RowKit Go.ChangeShapes Go.WideShapes Go.ChangeAt

theorem open_txs {H : Type} {enc : TypeId × Value → H} {w : World} {base : Nat} {r : Go.Reach} {b0 : Nat} {v : Value} {d : DataW H} {ps : List MemPlace}
    (hval : Value.okWide Tryd.prog w r b0 22 v) (hd : DataW.Trod enc Tryd.prog w base (fun _ => true) true 22 v d ps) :
    ∃ (oa : Option Addr) (cap : Nat) (l : List ByteArray), v = .slice oa l.length cap ∧ ((l.length ≤ cap ∧ cap ≤ maxLen) ∧ ∀ p ∈ l, p.size ≤ maxLen) ∧ TxAt w oa l := by
  obtain ⟨a0, len, cap, rfl⟩ := okWide_slice Tryd.underlying22 hval
  obtain ⟨fuel, hf⟩ := hd
  rcases Deep.open_strs Tryd.underlying22 Tryd.underlying9 (by kernel_rfl) hf with ⟨hcs, _⟩ | ⟨a, len', cap', m, S, hcs, _, hl, hm, hmm, _, hx⟩
  · simp [Value.cells] at hcs
    obtain ⟨rfl, rfl, rfl⟩ := hcs
    exact ⟨none, 0, [], rfl, ⟨⟨Nat.zero_le _, Nat.zero_le _⟩, fun p hp => absurd hp List.not_mem_nil⟩, fun h => absurd rfl h⟩
  · simp [Value.cells] at hcs
    obtain ⟨rfl, rfl, rfl⟩ := hcs
    simp only [if_true] at hmm
    refine ⟨some a, cap, (List.range len).map S, by simp, ⟨⟨by simp; omega, by omega⟩, fun p hp => ?_⟩, fun hne => ?_⟩
    · rw [List.mem_map] at hp
      obtain ⟨i, hi, rfl⟩ := hp
      rw [List.mem_range] at hi
      exact (hx i (by omega)).2
    · have hlen : 0 < len := by
        rcases Nat.eq_zero_or_pos len with h | h
        · subst h; simp at hne
        · exact h
      obtain ⟨b, off, spot⟩ := a
      have h00 := (hx 0 (by omega)).1
      have hspot : spot = none := by simpa [Addr.add] using World.cell?_spot h00
      subst hspot
      refine ⟨b, off, rfl, ?_, fun i hi => ?_⟩
      · have := cell_lt h00
        rwa [add_block] at this
      · have hi2 : i < len := by simpa using hi
        have h := (hx i (by omega)).1
        rw [Addr.add_lit] at h
        rw [h]
        simp

end Go.Proofs.YtklbmlnghindjaaDoor
