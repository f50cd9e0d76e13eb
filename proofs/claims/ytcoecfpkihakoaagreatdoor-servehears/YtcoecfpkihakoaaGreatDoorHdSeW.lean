/- What is to be seen of package hold's holds. -/
import Derived.Test.YtcoecfpkihakoaaGreatDoorGz20
import Derived.Test.YtcoecfpkihakoaaGreatDoorHdKeyW
import Derived.Test.YtcoecfpkihakoaaGreatDoorGz7
namespace Go.Proofs.YtcoecfpkihakoaaGreatDoor
open Go.RowKit
theorem hdSee : HoldSee HdOf where
  lt := fun ⟨_, _, _, _, hd⟩ k hk => hd.inS k hk
  keep := fun hd hs hb => hd.keep hs hb
  count := fun ⟨_, _, _, _, hd⟩ => count_any hd
  get := fun key hk ⟨_, _, _, _, hd⟩ => get_any hd key hk
  last := fun key hk ⟨_, _, _, _, hd⟩ => last_any hd key hk
  sealed_ := fun ⟨_, _, _, _, hd⟩ => (sealed_any hd).mono fun e w' ⟨he, hw⟩ => ⟨he, by rw [hw]; exact Below.refl _ _⟩
  keys := fun ⟨_, _, _, _, hd⟩ => keys_any hd
end Go.Proofs.YtcoecfpkihakoaaGreatDoor
