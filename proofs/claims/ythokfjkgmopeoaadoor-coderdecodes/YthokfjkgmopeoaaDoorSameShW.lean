/- The statements' comparison of two lists of shards: those that are the same are found the same. -/
import Derived.Test.YthokfjkgmopeoaaDoorG1
import Derived.Deep.QuietTactic
import Derived.BigQuiet
namespace Go.Proofs.YthokfjkgmopeoaaDoor
open Go.RowKit
set_option maxRecDepth 10000 in
set_option maxHeartbeats 1000000 in
theorem sameShards_any (pa pb : Option Addr) (l : List (Int × ByteArray)) (ca cb : Nat) (w : World) (hl : l.length ≤ 1000) (ha : Shs w pa l) (hb : Shs w pb l) :
    Calls Tryd.prog 12 #[.slice pa l.length ca, .slice pb l.length cb] w fun e w' => e = .returned (.bool true) ∧ Below w.heap.size w w' := by
  go_enter Tryd.func12, Tryd.ntmps12
  go_wp2
  go_loopw [5] (fun x wr => ∃ i : Nat, i ≤ l.length ∧ x = .int .i64 i ∧ Below w.heap.size w wr) (fun x _ => l.length - (intOf x).toNat)
  case atStart => exact ⟨0, by omega, rfl, Below.refl _ _⟩
  case round =>
    obtain ⟨i, hi, rfl, hB⟩ := hrel
    have HB : Hid (Below w.heap.size w wr) := hB
    have HA' : Hid (Shs wr pa l) := ha.below hB
    have HB' : Hid (Shs wr pb l) := hb.below hB
    clear hB
    by_cases hil : i < l.length
    · rcases HA'.out with h0 | ⟨b1, o1, rfl, _, hc1⟩
      · rw [h0] at hil; simp at hil
      rcases HB'.out with h0 | ⟨b2, o2, rfl, _, hc2⟩
      · rw [h0] at hil; simp at hil
      obtain ⟨q1, q2⟩ := hc1 i hil
      obtain ⟨q3, q4⟩ := hc2 i hil
      clear hc1 hc2
      generalize (shAt l i).1 = x at *
      generalize (shAt l i).2 = t at *
      go_wp2
      go_quiet (fail)
      go_wp2
      go_roundw
      case rel => exact ⟨i + 1, by omega, by go_num, below_drewN HB.out _⟩
      case measure => simp [intOf]; omega
    · go_wp2
      go_ret
      exact ⟨rfl, HB.out⟩
end Go.Proofs.YthokfjkgmopeoaaDoor
