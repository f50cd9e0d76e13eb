/- The statements' 'coded' at three errors. -/
import Derived.Test.YthokfjkgmopeoaaDoorCodeW
namespace Go.Proofs.YthokfjkgmopeoaaDoor
open Go.RowKit
theorem coded_shape (ad : Nat → Addr) (w : World) (hS : Sent w ad) :
    Calls Tryd.prog 11 #[.iface 136 (.pointer (some (ad 2))), .int .i64 3] w fun e w' => e = .returned (.bool true) ∧ Below w.heap.size w w' := coded_sent ad 2 (by decide) w hS
theorem coded_zero (ad : Nat → Addr) (w : World) (hS : Sent w ad) :
    Calls Tryd.prog 11 #[.iface 136 (.pointer (some (ad 11))), .int .i64 12] w fun e w' => e = .returned (.bool true) ∧ Below w.heap.size w w' := coded_sent ad 11 (by decide) w hS
theorem coded_bound (ad : Nat → Addr) (w : World) (hS : Sent w ad) :
    Calls Tryd.prog 11 #[.iface 136 (.pointer (some (ad 1))), .int .i64 2] w fun e w' => e = .returned (.bool true) ∧ Below w.heap.size w w' := coded_sent ad 1 (by decide) w hS
end Go.Proofs.YthokfjkgmopeoaaDoor
