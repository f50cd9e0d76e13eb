/- The calls of package field that may hand back an error: Pow, Inv, with what package api's variable holds. -/
import Derived.Test.YthokfjkgmopeoaaDoorFieldPowW
import Derived.Test.YthokfjkgmopeoaaDoorCodeW
import Derived.Deep.QuietTactic
import Derived.BigQuiet
import Derived.WalkSmall
namespace Go.Proofs.YthokfjkgmopeoaaDoor
open Go.RowKit
theorem pow_err (n : Int) (z : Addr) (w : World) (hn : n < 0) (hz : w.cell? ⟨11, 0, none⟩ = some (.iface 136 (.pointer (some z)))) :
    Calls Tryd.prog 72 #[.int .u8 0, .int .i64 n] w fun e w' => e = .returned (.tuple #[.int .u8 0, .iface 136 (.pointer (some z))]) ∧ Below w.heap.size w w' := by
  go_enter Tryd.func72, Tryd.ntmps72
  go_wp2
  go_quiet (fail)
  go_wp2
  go_ret2
  exact ⟨rfl, below_drewN (Below.refl _ _) _⟩
theorem inv_zero (z : Addr) (w : World) (hz : w.cell? ⟨11, 0, none⟩ = some (.iface 136 (.pointer (some z)))) :
    Calls Tryd.prog 78 #[.int .u8 0] w fun e w' => e = .returned (.tuple #[.int .u8 0, .iface 136 (.pointer (some z))]) ∧ Below w.heap.size w w' := by
  go_enter Tryd.func78, Tryd.ntmps78
  go_wp2
  go_quiet (fail)
  go_wp2
  go_ret2
  exact ⟨rfl, below_drewN (Below.refl _ _) _⟩
theorem inv_zero' (b : Nat) (h : b = 0) (z : Addr) (w : World) (hz : w.cell? ⟨11, 0, none⟩ = some (.iface 136 (.pointer (some z)))) :
    Calls Tryd.prog 78 #[.int .u8 (b : Int)] w fun e w' => e = .returned (.tuple #[.int .u8 0, .iface 136 (.pointer (some z))]) ∧ Below w.heap.size w w' := by
  subst h; exact inv_zero z w hz
theorem inv_any (a : Nat) (w : World) (ha : a < 256) (h0 : a ≠ 0) :
    Calls Tryd.prog 78 #[.int .u8 (a : Int)] w fun e w' => e = .returned (.tuple #[.int .u8 (Gf.inv a : Nat), .nilIface]) ∧ w' = w := by
  have h1 : ((a : Int) == 0) = false := by simpa using h0
  clear h0
  go_enter Tryd.func78, Tryd.ntmps78
  go_wp2_with (go_at_call 85; refine (inverse_any a _ ha).mono ?_; rintro e w' ⟨rfl, rfl⟩)
  go_ret2
  exact ⟨rfl, rfl⟩
end Go.Proofs.YthokfjkgmopeoaaDoor
