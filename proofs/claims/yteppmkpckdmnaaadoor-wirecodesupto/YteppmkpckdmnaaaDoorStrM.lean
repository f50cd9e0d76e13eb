/- Bytes as a text. -/
import Derived.Test.YteppmkpckdmnaaaDoorBase
import Derived.Laws.BytesArg
import Derived.WalkSmall
namespace Go.Proofs.YteppmkpckdmnaaaDoor
open Go.RowKit
/-- Bytes as a text. -/
def strOf (l : List Nat) : ByteArray := strOfNums (l.map Int.ofNat)
end Go.Proofs.YteppmkpckdmnaaaDoor
