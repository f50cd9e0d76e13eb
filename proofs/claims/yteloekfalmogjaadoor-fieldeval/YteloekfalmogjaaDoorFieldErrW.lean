/- The calls of package field that may hand back an error: Pow, Inv, Div, with what package api's variable holds. -/
import Derived.Test.YteloekfalmogjaaDoorFieldPowW
import Derived.Test.YteloekfalmogjaaDoorCodeW
import Derived.Deep.QuietTactic
import Derived.BigQuiet
import Derived.WalkSmall
namespace Go.Proofs.YteloekfalmogjaaDoor
open Go.RowKit
theorem pow_err (n : Int) (z : Addr) (w : World) (hn : n < 0) (hz : w.cell? ⟨11, 0, none⟩ = some (.iface 55 (.pointer (some z)))) :
    Calls Tryd.prog 20 #[.int .u8 0, .int .i64 n] w fun e w' => e = .returned (.tuple #[.int .u8 0, .iface 55 (.pointer (some z))]) ∧ Below w.heap.size w w' := by
  go_enter Tryd.func20, Tryd.ntmps20
  go_wp2
  go_quiet (fail)
  go_wp2
  go_ret2
  exact ⟨rfl, below_drewN (Below.refl _ _) _⟩
theorem inv_zero (z : Addr) (w : World) (hz : w.cell? ⟨11, 0, none⟩ = some (.iface 55 (.pointer (some z)))) :
    Calls Tryd.prog 15 #[.int .u8 0] w fun e w' => e = .returned (.tuple #[.int .u8 0, .iface 55 (.pointer (some z))]) ∧ Below w.heap.size w w' := by
  go_enter Tryd.func15, Tryd.ntmps15
  go_wp2
  go_quiet (fail)
  go_wp2
  go_ret2
  exact ⟨rfl, below_drewN (Below.refl _ _) _⟩
theorem div_zero (a : Nat) (z : Addr) (w : World) (hz : w.cell? ⟨11, 0, none⟩ = some (.iface 55 (.pointer (some z)))) :
    Calls Tryd.prog 14 #[.int .u8 (a : Int), .int .u8 0] w fun e w' => e = .returned (.tuple #[.int .u8 0, .iface 55 (.pointer (some z))]) ∧ Below w.heap.size w w' := by
  go_enter Tryd.func14, Tryd.ntmps14
  go_wp2
  go_quiet (fail)
  go_wp2
  go_ret2
  exact ⟨rfl, below_drewN (Below.refl _ _) _⟩
theorem inv_zero' (b : Nat) (h : b = 0) (z : Addr) (w : World) (hz : w.cell? ⟨11, 0, none⟩ = some (.iface 55 (.pointer (some z)))) :
    Calls Tryd.prog 15 #[.int .u8 (b : Int)] w fun e w' => e = .returned (.tuple #[.int .u8 0, .iface 55 (.pointer (some z))]) ∧ Below w.heap.size w w' := by
  subst h; exact inv_zero z w hz
theorem div_zero' (a b : Nat) (h : b = 0) (z : Addr) (w : World) (hz : w.cell? ⟨11, 0, none⟩ = some (.iface 55 (.pointer (some z)))) :
    Calls Tryd.prog 14 #[.int .u8 (a : Int), .int .u8 (b : Int)] w fun e w' => e = .returned (.tuple #[.int .u8 0, .iface 55 (.pointer (some z))]) ∧ Below w.heap.size w w' := by
  subst h; exact div_zero a z w hz
theorem inv_any (a : Nat) (w : World) (ha : a < 256) (h0 : a ≠ 0) :
    Calls Tryd.prog 15 #[.int .u8 (a : Int)] w fun e w' => e = .returned (.tuple #[.int .u8 (Gf.inv a : Nat), .nilIface]) ∧ w' = w := by
  have h1 : ((a : Int) == 0) = false := by simpa using h0
  clear h0
  go_enter Tryd.func15, Tryd.ntmps15
  go_wp2_with (go_at_call 28; refine (inverse_any a _ ha).mono ?_; rintro e w' ⟨rfl, rfl⟩)
  go_ret2
  exact ⟨rfl, rfl⟩
theorem div_any (a b : Nat) (w : World) (ha : a < 256) (hb : b < 256) (h0 : b ≠ 0) :
    Calls Tryd.prog 14 #[.int .u8 (a : Int), .int .u8 (b : Int)] w fun e w' => e = .returned (.tuple #[.int .u8 (Gf.mul a (Gf.inv b) : Nat), .nilIface]) ∧ w' = w := by
  have h1 : ((b : Int) == 0) = false := by simpa using h0
  clear h0
  go_enter Tryd.func14, Tryd.ntmps14
  go_wp2_with (first | (go_at_call 28; refine (inverse_any b _ hb).mono ?_; rintro e w' ⟨rfl, rfl⟩) | (go_at_call 16; refine (mul_any a (Gf.inv b) _ ha (Gf.inv_lt b)).mono ?_; rintro e w' ⟨rfl, rfl⟩))
  go_ret2
  exact ⟨rfl, rfl⟩
end Go.Proofs.YteloekfalmogjaaDoor
