/- slices.symMergeCmpFunc at faults: its contract, from its cases. Written by wip/tools/mkfas2.py. -/
import Derived.Test.YtbpkaegkcknemaaFaS2
import Derived.Test.YtbpkaegkcknemaaFaS3
import Derived.Test.YtbpkaegkcknemaaFaS7
import Derived.Test.YtbpkaegkcknemaaFaS4
import Derived.Test.YtbpkaegkcknemaaFaS5
namespace Go.Proofs.Ytbpkaegkcknemaa
open Go.Shelf Go.RowKit Go.Lib Go.Sort Go.Proofs

theorem sw_sym {P : Program} {k : Nat} (L : Prg P k) (g : Nat) (cb : Array Value) (eg : ∀ args w, (callFunc g args).run P w = .ok (.enter g args) w) (blk off cap : Nat) (d0 : Array Fa) (w0 : World) (hcmp : CmpLays P g cb encF k cfF blk off d0.size w0) (R : RowK encF k w0 blk off d0) :
    ∀ N, SymC P k g cb blk off cap d0 w0 N
  | 0 => fun a m b d A X Y B w hN hs S ham hmb hsz hL => by omega
  | N + 1 => fun a m b d A X Y B w hN hs S ham hmb hsz hL => by
    have IH := sw_sym L g cb eg blk off cap d0 w0 hcmp R N
    by_cases h1 : m = a + 1
    · exact sw_sym1 L g cb eg blk off cap d0 w0 hcmp R N a m b d A X Y B w IH hN hs S ham hmb hsz hL h1
    · by_cases h2 : b = m + 1
      · exact sw_sym2 L g cb eg blk off cap d0 w0 hcmp R N a m b d A X Y B w IH hN hs S ham hmb hsz hL h1 h2
      · by_cases h3 : (a + b) / 2 < m
        · exact sw_sym3 L g cb eg blk off cap d0 w0 hcmp R N a m b d A X Y B w IH hN hs S ham hmb hsz hL h1 h2 h3
        · exact sw_sym4 L g cb eg blk off cap d0 w0 hcmp R N a m b d A X Y B w IH hN hs S ham hmb hsz hL h1 h2 h3

end Go.Proofs.Ytbpkaegkcknemaa
