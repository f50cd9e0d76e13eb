import Derived.Test.YtobmckfcipeanaaGreatDoorProg
import Derived.WalkKit
import Derived.Below
import Derived.WalkSmall
import Derived.Test.YtobmckfcipeanaaGreatDoorZD
import Derived.Test.YtobmckfcipeanaaGreatDoorZE
import Derived.Test.YtobmckfcipeanaaGreatDoorGfAll
import Derived.Deep.QuietTactic
import Derived.BigQuiet
namespace Go.Proofs.YtobmckfcipeanaaGreatDoor
open Go.RowKit
set_option maxRecDepth 10000 in
theorem mfits_any (n k : Int) (w : World) : Calls Tryz.prog 79 #[.int .i64 n, .int .i64 k] w fun e w' => e = .returned (.bool (decide (1 <= k /\ k <= n /\ n <= 12))) /\ w' = w := by
 by_cases h1 : 1 <= k
 ·by_cases h2 : k <= n
  ·by_cases h3 : n <= 12
   ·have HE : Hid (decide (1 <= k /\ k <= n /\ n <= 12) = true) := decide_eq_true ⟨h1, h2, h3⟩
    rw [HE.out]
    go_enter Tryz.func79, Tryz.ntmps79
    go_wp2
    go_ret
    exact ⟨rfl, rfl⟩
   ·have HE : Hid (decide (1 <= k /\ k <= n /\ n <= 12) = false) := decide_eq_false fun h => h3 h.2.2
    rw [HE.out]
    go_enter Tryz.func79, Tryz.ntmps79
    go_wp2
    go_ret
    exact ⟨rfl, rfl⟩
  ·have HE : Hid (decide (1 <= k /\ k <= n /\ n <= 12) = false) := decide_eq_false fun h => h2 h.2.1
   rw [HE.out]
   go_enter Tryz.func79, Tryz.ntmps79
   go_wp2
   go_ret
   exact ⟨rfl, rfl⟩
 ·have HE : Hid (decide (1 <= k /\ k <= n /\ n <= 12) = false) := decide_eq_false fun h => h1 h.1
  rw [HE.out]
  go_enter Tryz.func79, Tryz.ntmps79
  go_wp2
  go_ret
  exact ⟨rfl, rfl⟩
theorem rep_zero : ∀ j, 0 < j -> Gf.rep 0 j = 0
 | 0, h => absurd h (Nat.lt_irrefl _)
 | j + 1, _ => by
  show Gf.mul _ _ = 0
  first | exact Gf.mul_zero _ | exact Gf.zero_mul _
theorem red_small (j : Nat) (h : j < 255) : red (j : Int) = j := by unfold red; omega
theorem fpow_any (i j : Nat) (w : World) (hi : i < 256) (hj : j < 255) :
 Calls Tryz.prog 158 #[.int .u8 (i : Int), .int .i64 (j : Int)] w fun e w' => e = .returned (.tuple #[.int .u8 ((Gf.rep i j : Nat) : Int), .nilIface]) /\ w' = w := by
 by_cases h : i = 0 /\ 0 < j
 ·obtain ⟨rfl, hj0⟩ := h
  rw [rep_zero j hj0]
  exact pow_zero_pos (j : Int) w (by omega)
 ·have := pow_reg i (j : Int) w hi (fun h0 => by
   by_cases h1 : 0 < j
   ·exact absurd ⟨h0, h1⟩ h
   ·omega)
  rw [red_small j hj, Gf.power_rep i j hi (by omega)] at this
  exact this
set_option maxRecDepth 10000 in
theorem powers1_any (i j : Nat) (w : World) (hi : i < 256) (hj : j < 255) :
 Calls Tryz.prog 157 #[.int .i64 (i : Int), .int .i64 (j : Int)] w fun e w' => e = .returned (.int .u8 ((Gf.rep i j : Nat) : Int)) /\ Below w.heap.size w w' := by
 have HP := fpow_any i j w hi hj
 go_enter Tryz.func157, Tryz.ntmps157
 go_wp2_with (go_at_call 158; refine HP.mono ?_; rintro e w' ⟨rfl, rfl⟩)
 go_ret
 exact ⟨rfl, Below.refl _ _⟩
set_option maxRecDepth 10000 in
theorem powers_ok (n k : Nat) (w : World) (hk1 : 1 <= k) (hkn : k <= n) (hn : n <= 12) :
 Calls Tryz.prog 142 #[.int .i64 (n : Int), .int .i64 (k : Int)] w fun e w' => (∃ gm gs, e = .returned (.tuple #[.slice (some ⟨gm, 0, none⟩) n n, .nilIface]) /\ OwnG w' w.heap.size gm gs n k Gf.rep) /\ Below w.heap.size w w' := by
 have HB := build_any n k Gf.rep 157 #[] w (by omega) (by omega) (enters_of Tryz.func157 (by kernel_rfl) rfl) (fun i j hi hj w1 _ => powers1_any i j w1 (by omega) (by omega))
 have HF : Hid (Calls Tryz.prog 79 #[.int .i64 (n : Int), .int .i64 (k : Int)] w fun e w' => e = .returned (.bool true) /\ w' = w) := by
  have h := mfits_any (n : Int) (k : Int) w
  rw [decide_eq_true (show (1 : Int) <= (k : Int) /\ (k : Int) <= (n : Int) /\ (n : Int) <= 12 by omega)] at h
  exact h
 go_enter Tryz.func142, Tryz.ntmps142
 go_wp2_with fail
 refine HF.out.mono ?_
 rintro e w0 ⟨rfl, hw0⟩
 rw [hw0]
 clear hw0 w0 HF
 go_wp2_with (go_at_call 120; refine HB.mono ?_; rintro e w1 ⟨⟨gm, gs, rfl, hG⟩, hb⟩)
 go_ret2
 exact ⟨⟨gm, gs, rfl, hG⟩, hb⟩
end Go.Proofs.YtobmckfcipeanaaGreatDoor
