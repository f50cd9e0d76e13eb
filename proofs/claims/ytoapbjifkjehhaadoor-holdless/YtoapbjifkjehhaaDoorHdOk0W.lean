/- Package hold answers as a first look asks. -/
import Derived.Test.YtoapbjifkjehhaaDoorHdPutW
import Derived.Test.YtoapbjifkjehhaaDoorHoldC0
namespace Go.Proofs.YtoapbjifkjehhaaDoor
open Go.RowKit
theorem holdOk0 (ad : Nat → Addr) : HoldOk0 ad (fun w => HErrs w ad) HdOf where
  lt := fun ⟨_, _, _, _, hd⟩ k hk => hd.inS k hk
  keep := fun hd hs hb => hd.keep hs hb
  zero := fun w => hd_zero w
  less := fun a b w => less_any a b w
  count := fun ⟨_, _, _, _, hd⟩ => count_any hd
  get := fun key hk ⟨_, _, _, _, hd⟩ => get_any hd key hk
  last := fun key hk ⟨_, _, _, _, hd⟩ => last_any hd key hk
  put := fun key v hk ht hd hE => put_any hd key v hk ht hE
end Go.Proofs.YtoapbjifkjehhaaDoor
