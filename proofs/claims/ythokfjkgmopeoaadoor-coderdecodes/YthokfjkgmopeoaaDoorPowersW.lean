/- Package matrix: Powers. -/
import Derived.Test.YthokfjkgmopeoaaDoorBuildW
import Derived.Test.YthokfjkgmopeoaaDoorFieldErrW
import Derived.Test.YthokfjkgmopeoaaDoorGfAll
import Derived.Deep.QuietTactic
import Derived.BigQuiet
namespace Go.Proofs.YthokfjkgmopeoaaDoor
open Go.RowKit
theorem rep_zero : ∀ j, 0 < j → Gf.rep 0 j = 0
  | 0, h => absurd h (Nat.lt_irrefl _)
  | j + 1, _ => by
    show Gf.mul _ _ = 0
    first | exact Gf.mul_zero _ | exact Gf.zero_mul _
theorem red_small (j : Nat) (h : j < 255) : red (j : Int) = j := by unfold red; omega
theorem fpow_any (i j : Nat) (w : World) (hi : i < 256) (hj : j < 255) :
    Calls Tryd.prog 72 #[.int .u8 (i : Int), .int .i64 (j : Int)] w fun e w' => e = .returned (.tuple #[.int .u8 ((Gf.rep i j : Nat) : Int), .nilIface]) ∧ w' = w := by
  by_cases h : i = 0 ∧ 0 < j
  · obtain ⟨rfl, hj0⟩ := h
    rw [rep_zero j hj0]
    exact pow_zero_pos (j : Int) w (by omega)
  · have := pow_reg i (j : Int) w hi (fun h0 => by
      by_cases h1 : 0 < j
      · exact absurd ⟨h0, h1⟩ h
      · omega)
    rw [red_small j hj, Gf.power_rep i j hi (by omega)] at this
    exact this
set_option maxRecDepth 10000 in
theorem powers1_any (i j : Nat) (w : World) (hi : i < 256) (hj : j < 255) :
    Calls Tryd.prog 71 #[.int .i64 (i : Int), .int .i64 (j : Int)] w fun e w' => e = .returned (.int .u8 ((Gf.rep i j : Nat) : Int)) ∧ Below w.heap.size w w' := by
  have HP := fpow_any i j w hi hj
  go_enter Tryd.func71, Tryd.ntmps71
  go_wp2_with (go_at_call 72; refine HP.mono ?_; rintro e w' ⟨rfl, rfl⟩)
  go_ret
  exact ⟨rfl, Below.refl _ _⟩
set_option maxRecDepth 10000 in
theorem powers_ok (n k : Nat) (w : World) (hk1 : 1 ≤ k) (hkn : k ≤ n) (hn : n ≤ 12) :
    Calls Tryd.prog 55 #[.int .i64 (n : Int), .int .i64 (k : Int)] w fun e w' => (∃ gm gs, e = .returned (.tuple #[.slice (some ⟨gm, 0, none⟩) n n, .nilIface]) ∧ OwnG w' w.heap.size gm gs n k Gf.rep) ∧ Below w.heap.size w w' := by
  have HB := build_any n k Gf.rep 71 #[] w (by omega) (by omega) (enters_of Tryd.func71 (by kernel_rfl) rfl) (fun i j hi hj w1 _ => powers1_any i j w1 (by omega) (by omega))
  go_enter Tryd.func55, Tryd.ntmps55
  go_wp2_with (go_at_call 46; refine HB.mono ?_; rintro e w1 ⟨⟨gm, gs, rfl, hG⟩, hb⟩)
  go_ret2
  exact ⟨⟨gm, gs, rfl, hG⟩, hb⟩
set_option maxRecDepth 10000 in
theorem powers_bad (n k : Int) (z : Addr) (w : World) (h : ¬ (1 ≤ k ∧ k ≤ n ∧ n ≤ 12)) (hz : w.cell? ⟨2, 0, none⟩ = some (.iface 136 (.pointer (some z)))) :
    Calls Tryd.prog 55 #[.int .i64 n, .int .i64 k] w fun e w' => e = .returned (.tuple #[.slice none 0 0, .iface 136 (.pointer (some z))]) ∧ Below w.heap.size w w' := by
  by_cases h1 : 1 ≤ k
  · by_cases h2 : k ≤ n
    · have h3 : ¬ n ≤ 12 := fun h3 => h ⟨h1, h2, h3⟩
      clear h
      go_enter Tryd.func55, Tryd.ntmps55
      go_wp2
      go_quiet (fail)
      go_wp2
      go_ret2
      exact ⟨rfl, below_drewN (Below.refl _ _) _⟩
    · clear h
      go_enter Tryd.func55, Tryd.ntmps55
      go_wp2
      go_quiet (fail)
      go_wp2
      go_ret2
      exact ⟨rfl, below_drewN (Below.refl _ _) _⟩
  · clear h
    go_enter Tryd.func55, Tryd.ntmps55
    go_wp2
    go_quiet (fail)
    go_wp2
    go_ret2
    exact ⟨rfl, below_drewN (Below.refl _ _) _⟩
end Go.Proofs.YthokfjkgmopeoaaDoor
