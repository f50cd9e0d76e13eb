/- field.within and field.Pow where it is no error: powers by what is left of the number by 255. -/
import Derived.Test.YthokfjkgmopeoaaDoorFieldW
namespace Go.Proofs.YthokfjkgmopeoaaDoor
open Go.RowKit
theorem within_any (n : Int) (w : World) :
    Calls Tryd.prog 84 #[.int .i64 n] w fun e w' => e = .returned (.int .i64 ((red n : Nat) : Int)) ∧ w' = w := by
  have HR : Hid (((red n : Nat) : Int) = n % 255) := red_cast n
  by_cases h0 : 0 ≤ n
  · go_enter Tryd.func84, Tryd.ntmps84
    go_wp2
    go_ret
    exact ⟨ret_int HR.out.symm, rfl⟩
  · have HT : Hid (n.tmod 255 = -((-n) % 255)) := by show _ = _; rw [tmod_neg, Int.tmod_eq_emod_of_nonneg (by omega)]
    have hb1 : -255 < n.tmod 255 := by rw [HT.out]; omega
    have hb2 : n.tmod 255 ≤ 0 := by rw [HT.out]; omega
    go_enter Tryd.func84, Tryd.ntmps84
    go_wp2
    · go_ret
      exact ⟨ret_int (by have := HT.out; have := HR.out; omega), rfl⟩
    · go_ret
      exact ⟨ret_int (by have := HT.out; have := HR.out; omega), rfl⟩
theorem pow_zero_pos (n : Int) (w : World) (hn : 0 < n) :
    Calls Tryd.prog 72 #[.int .u8 0, .int .i64 n] w fun e w' => e = .returned (.tuple #[.int .u8 0, .nilIface]) ∧ w' = w := by
  go_enter Tryd.func72, Tryd.ntmps72
  go_wp2
  go_ret2
  exact ⟨rfl, rfl⟩
theorem pow_reg (a : Nat) (n : Int) (w : World) (ha : a < 256) (h : a = 0 → n = 0) :
    Calls Tryd.prog 72 #[.int .u8 (a : Int), .int .i64 n] w fun e w' => e = .returned (.tuple #[.int .u8 (Gf.power a (red n) : Nat), .nilIface]) ∧ w' = w := by
  have hr := red_lt n
  by_cases h0 : a = 0
  · obtain rfl := h h0
    subst h0
    clear h
    go_enter Tryd.func72, Tryd.ntmps72
    go_wp2_with (first | (go_at_call 84; refine (within_any 0 _).mono ?_; rintro e w' ⟨rfl, rfl⟩) | (go_at_call 83; refine (power_any 0 (red 0) _ (by decide) (by omega)).mono ?_; rintro e w' ⟨rfl, rfl⟩))
    go_ret2
    exact ⟨rfl, rfl⟩
  · have h1 : ((a : Int) == 0) = false := by simpa using h0
    clear h h0
    go_enter Tryd.func72, Tryd.ntmps72
    go_wp2_with (first | (go_at_call 84; refine (within_any n _).mono ?_; rintro e w' ⟨rfl, rfl⟩) | (go_at_call 83; refine (power_any a (red n) _ ha (by omega)).mono ?_; rintro e w' ⟨rfl, rfl⟩))
    go_ret2
    exact ⟨rfl, rfl⟩
end Go.Proofs.YthokfjkgmopeoaaDoor
