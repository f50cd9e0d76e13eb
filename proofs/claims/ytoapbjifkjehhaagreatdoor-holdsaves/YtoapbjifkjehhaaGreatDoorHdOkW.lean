/- Package hold answers as the statements ask. -/
import Derived.Test.YtoapbjifkjehhaaGreatDoorHdTrimW
import Derived.Test.YtoapbjifkjehhaaGreatDoorG14
import Derived.Test.YtoapbjifkjehhaaGreatDoorHoldCW
namespace Go.Proofs.YtoapbjifkjehhaaGreatDoor
open Go.RowKit
theorem Sent.herrs {w : World} {ad : Nat → Addr} (h : Sent w ad) : HErrs w ad := ⟨h.c1, h.c3, h.c5, h.c6, h.c9⟩
theorem holdOk (ad : Nat → Addr) : HoldOk ad HdOf where
  lt := fun ⟨_, _, _, _, hd⟩ k hk => hd.inS k hk
  keep := fun hd hs hb => hd.keep hs hb
  zero := fun w => hd_zero w
  less := fun a b w => less_any a b w
  count := fun ⟨_, _, _, _, hd⟩ => count_any hd
  get := fun key hk ⟨_, _, _, _, hd⟩ => get_any hd key hk
  last := fun key hk ⟨_, _, _, _, hd⟩ => last_any hd key hk
  put := fun key v hk ht hd hE => put_any hd key v hk ht hE.herrs
  sealed_ := fun ⟨_, _, _, _, hd⟩ => (sealed_any hd).mono fun e w' ⟨he, hw⟩ => ⟨he, by rw [hw]; exact Below.refl _ _⟩
  keys := fun ⟨_, _, _, _, hd⟩ => keys_any hd
  trim := fun key n hk h0 h1 hd => trim_any hd key n hk h0 h1
  trimBad := fun {w h S L s} key n _ h0 _ _ hE => trim_bad h key n h0 hE.herrs
  seals := fun hd => seals_any hd
  wipe := fun hd => wipe_any hd
end Go.Proofs.YtoapbjifkjehhaaGreatDoor
