/- What lies, and what was there, behind some calls. -/
import Derived.Test.YthokfjkgmopeoaaDoorCodeW
namespace Go.Proofs.YthokfjkgmopeoaaDoor
open Go.RowKit
structure StillS (w0 w : World) (ad : Nat → Addr) : Prop where
  sent : Sent w ad
  below : Below w0.heap.size w0 w
theorem StillS.next {w0 w w' : World} {ad : Nat → Addr} (h : StillS w0 w ad) (hb : Below w.heap.size w w') : StillS w0 w' ad := ⟨h.sent.below hb, h.below.trans (hb.mono h.below.size)⟩
end Go.Proofs.YthokfjkgmopeoaaDoor
