/- What lies, and what was there, behind some calls. -/
import Derived.Test.YthokfjkgmopeoaaDoorCodeW
namespace Go.Proofs.YthokfjkgmopeoaaDoor
open Go.RowKit
structure StillS (w0 w : World) (ad : Nat → Addr) : Prop where
  sent : Sent w ad
  below : Below w0.heap.size w0 w
theorem StillS.next {w0 w w' : World} {ad : Nat → Addr} (h : StillS w0 w ad) (hb : Below w.heap.size w w') : StillS w0 w' ad := ⟨h.sent.below hb, h.below.trans (hb.mono h.below.size)⟩
end Go.Proofs.YthokfjkgmopeoaaDoor
/- The statements' 'coded' at three errors. -/
namespace Go.Proofs.YthokfjkgmopeoaaDoor
open Go.RowKit
theorem coded_shape (ad : Nat → Addr) (w : World) (hS : Sent w ad) :
    Calls Tryd.prog 11 #[.iface 136 (.pointer (some (ad 2))), .int .i64 3] w fun e w' => e = .returned (.bool true) ∧ Below w.heap.size w w' := coded_sent ad 2 (by decide) w hS
theorem coded_zero (ad : Nat → Addr) (w : World) (hS : Sent w ad) :
    Calls Tryd.prog 11 #[.iface 136 (.pointer (some (ad 11))), .int .i64 12] w fun e w' => e = .returned (.bool true) ∧ Below w.heap.size w w' := coded_sent ad 11 (by decide) w hS
theorem coded_bound (ad : Nat → Addr) (w : World) (hS : Sent w ad) :
    Calls Tryd.prog 11 #[.iface 136 (.pointer (some (ad 1))), .int .i64 2] w fun e w' => e = .returned (.bool true) ∧ Below w.heap.size w w' := coded_sent ad 1 (by decide) w hS
end Go.Proofs.YthokfjkgmopeoaaDoor
