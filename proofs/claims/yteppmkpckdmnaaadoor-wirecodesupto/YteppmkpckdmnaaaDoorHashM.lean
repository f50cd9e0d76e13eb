/- The hash of a text, as the document has it. -/
import Derived.Test.YteppmkpckdmnaaaDoorTxtB
namespace Go.Proofs.YteppmkpckdmnaaaDoor
/-- The hash of the first i bytes. -/
def hashTo (s : ByteArray) : Nat → Nat
  | 0 => 2166136261
  | i + 1 => (hashTo s i ^^^ Gf.nth (bytesOf s) i) * 16777619 % 4294967296
theorem hashTo_lt (s : ByteArray) : ∀ i, hashTo s i < 4294967296
  | 0 => by show 2166136261 < 4294967296; decide
  | i + 1 => Nat.mod_lt _ (by decide)
end Go.Proofs.YteppmkpckdmnaaaDoor
