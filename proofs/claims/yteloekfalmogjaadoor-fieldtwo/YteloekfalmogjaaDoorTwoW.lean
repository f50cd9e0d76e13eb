/- The walk of the law FieldTwo: whatever n and a, the call returns true and writes nothing. -/
import Derived.Test.YteloekfalmogjaaDoorFieldPowW
namespace Go.Proofs.YteloekfalmogjaaDoor
open Go.RowKit
theorem two_pow : ∀ n : Nat, n < 255 → Gf.power 2 n ≠ 0 ∧ (Gf.power 2 n = 1 ↔ n = 0) := by decide +kernel
theorem red_of {n : Int} (h0 : 0 ≤ n) (h1 : n ≤ 254) : ((red n : Nat) : Int) = n := by rw [red_cast]; omega
theorem red_255 : red 255 = 0 := rfl
theorem power_zero (a : Nat) : Gf.power a 0 = 1 := by simp [Gf.power, Gf.pw, Gf.bitOf]
set_option maxRecDepth 10000 in
theorem two_out (n : Int) (a : Nat) (w : World) (h : n < 0 ∨ 254 < n) :
    Calls Tryd.prog 7 #[.int .i64 n, .int .u8 (a : Int)] w fun e w' => e = .returned (.bool true) ∧ w' = w := by
  rcases h with h | h
  · go_enter Tryd.func7, Tryd.ntmps7
    go_wp2_with (go_at_call 13; refine (double_any _).mono ?_; rintro e w' ⟨rfl, rfl⟩)
    go_ret
    exact ⟨rfl, rfl⟩
  · have h' : ¬ n < 0 := by omega
    go_enter Tryd.func7, Tryd.ntmps7
    go_wp2_with (go_at_call 13; refine (double_any _).mono ?_; rintro e w' ⟨rfl, rfl⟩)
    go_ret
    exact ⟨rfl, rfl⟩
set_option maxRecDepth 10000 in
set_option maxHeartbeats 1000000 in
theorem two_in (n : Int) (a : Nat) (w : World) (ha : a < 256) (h0 : 0 ≤ n) (h1 : n ≤ 254) :
    Calls Tryd.prog 7 #[.int .i64 n, .int .u8 (a : Int)] w fun e w' => e = .returned (.bool true) ∧ w' = w := by
  have hp := two_pow (red n) (red_lt n)
  have hz : (((Gf.power 2 (red n) : Nat) : Int) == 0) = false := by
    have := hp.1
    simp only [beq_eq_false_iff_ne, ne_eq]; omega
  have ho : (((Gf.power 2 (red n) : Nat) : Int) == 1) = (n == 0) := by
    have h2 := hp.2
    have h3 := red_of h0 h1
    rw [Bool.eq_iff_iff]
    simp only [beq_iff_eq]
    constructor
    · intro h; have := h2.1 (by omega); omega
    · intro h; have := h2.2 (by omega); omega
  clear hp
  have hne : ((n == 0) != (n == 0)) = false := by simp
  by_cases hz0 : a = 0
  · subst hz0
    go_enter Tryd.func7, Tryd.ntmps7
    go_wp2_with (go_at_call 13; refine (double_any _).mono ?_; rintro e w' ⟨rfl, rfl⟩)
    refine (pow_reg 2 n _ (by decide) (by omega)).mono ?_
    rintro e w' ⟨rfl, rfl⟩
    go_wp2_with fail
    refine (pow_zero_pos 255 _ (by decide)).mono ?_
    rintro e w' ⟨rfl, rfl⟩
    go_wp2
    go_ret
    exact ⟨rfl, rfl⟩
  · have hb : ((a : Int) == 0) = false := by simpa using hz0
    have HP : Hid (Gf.power a (red 255) = 1) := power_zero a
    go_enter Tryd.func7, Tryd.ntmps7
    go_wp2_with (go_at_call 13; refine (double_any _).mono ?_; rintro e w' ⟨rfl, rfl⟩)
    refine (pow_reg 2 n _ (by decide) (by omega)).mono ?_
    rintro e w' ⟨rfl, rfl⟩
    go_wp2_with fail
    refine (pow_reg a 255 _ ha (fun h => absurd h hz0)).mono ?_
    rintro e w' ⟨rfl, rfl⟩
    rw [HP.out]
    go_wp2
    go_ret
    exact ⟨rfl, rfl⟩
end Go.Proofs.YteloekfalmogjaaDoor
