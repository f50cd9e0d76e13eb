/- Bytes as a text. -/
import Derived.Test.YtgjehnahkbddgaaDoorBase
import Derived.Laws.BytesArg
import Derived.WalkSmall
namespace Go.Proofs.YtgjehnahkbddgaaDoor
open Go.RowKit
/-- Bytes as a text. -/
def strOf (l : List Nat) : ByteArray := strOfNums (l.map Int.ofNat)
end Go.Proofs.YtgjehnahkbddgaaDoor
