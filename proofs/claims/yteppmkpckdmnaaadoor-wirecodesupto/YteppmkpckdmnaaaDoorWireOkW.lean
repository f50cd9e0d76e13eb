/- Package wire answers as it is asked. -/
import Derived.Test.YteppmkpckdmnaaaDoorWrG
import Derived.Test.YteppmkpckdmnaaaDoorRwD
namespace Go.Proofs.YteppmkpckdmnaaaDoor
theorem wireOk (ad : Nat → Addr) : WireOk ad (fun _ => True) := ⟨fun m p c w hr _ hb hS _ => encode_any ad m p c w hr hb hS, fun s w hs hS _ => decode_any ad s w hs hS⟩
end Go.Proofs.YteppmkpckdmnaaaDoor
