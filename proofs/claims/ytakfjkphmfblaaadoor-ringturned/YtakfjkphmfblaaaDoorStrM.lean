/- Bytes as a text. -/
import Derived.Test.YtakfjkphmfblaaaDoorBase
import Derived.Laws.BytesArg
import Derived.WalkSmall
namespace Go.Proofs.YtakfjkphmfblaaaDoor
open Go.RowKit
/-- Bytes as a text. -/
def strOf (l : List Nat) : ByteArray := strOfNums (l.map Int.ofNat)
end Go.Proofs.YtakfjkphmfblaaaDoor
