/- The statements' own heavy: it tells yes or no. -/
import Derived.Test.YtoapbjifkjehhaaGreatDoorG5
import Derived.BigQuiet
namespace Go.Proofs.YtoapbjifkjehhaaGreatDoor
open Go.RowKit
set_option maxRecDepth 10000 in
set_option maxHeartbeats 4000000 in
theorem heavy_any (p : Option Addr) (l : List HAct) (c : Nat) (w : World) (hl : l.length ≤ maxLen) (hr : Rec actE w p l) :
    Calls Tryz.prog 13 #[.slice p l.length c] w fun e w' => (∃ r, e = .returned (.bool r)) ∧ Below w.heap.size w w' := by
  have HR : Hid (Rec actE w p l) := hr
  have hl' : l.length ≤ 9223372036854775807 := by unfold maxLen at hl; omega
  clear hr hl
  go_enter Tryz.func13, Tryz.ntmps13
  go_wp2
  go_loopw [3, 4] (fun y x wq => (∃ z : Int, y = .int .i64 z) ∧ (∃ i : Nat, i ≤ l.length ∧ x = .int .i64 i) ∧ ∃ n, wq = w.drewN n) (fun _ x _ => l.length - (intOf x).toNat)
  case atStart => exact ⟨⟨0, rfl⟩, ⟨0, Nat.zero_le _, rfl⟩, 0, rfl⟩
  case round =>
    obtain ⟨⟨z, rfl⟩, ⟨i, hi, rfl⟩, n, hw⟩ := hrel
    obtain ⟨w1, rfl⟩ : ∃ w1, w1 = wr := ⟨_, rfl⟩
    have HW : Hid (∃ n, w1 = w.drewN n) := ⟨n, hw⟩
    have HR1 : Hid (Rec actE w1 p l) := by show Rec actE w1 p l; rw [hw]; exact HR.out.drewN n
    clear hw
    by_cases hil : i < l.length
    · obtain ⟨b, o, hpp, hblt, c0, c1, c2, c3, c4, c5, c6, c7⟩ := act_cells HR1.out hil
      subst hpp
      generalize actAt l i = a at *
      obtain ⟨kk, ky, v, an⟩ := a
      go_wp2
      go_quiet (fail)
      go_wp2
      go_roundw
      case rel => exact ⟨⟨_, rfl⟩, ⟨i + 1, by omega, by go_num⟩, by obtain ⟨n, hn⟩ := HW.out; exact ⟨_, by rw [hn, World.drewN_drewN]⟩⟩
      case measure => simp [intOf]; omega
    · go_wp2
      go_ret
      exact ⟨⟨_, rfl⟩, by obtain ⟨n, hn⟩ := HW.out; rw [hn]; exact below_drewN (Below.refl _ _) n⟩
end Go.Proofs.YtoapbjifkjehhaaGreatDoor
