/- The walk of the law FieldPow: whatever the byte and the number, the call returns true; nothing that was there is written. -/
import Derived.Test.YteloekfalmogjaaDoorFieldErrW
import Derived.Test.YteloekfalmogjaaDoorRefW
namespace Go.Proofs.YteloekfalmogjaaDoor
open Go.RowKit
theorem coded_zero (ad : Nat → Addr) (w : World) (hS : Sent w ad) :
    Calls Tryd.prog 11 #[.iface 55 (.pointer (some (ad 11))), .int .i64 12] w fun e w' => e = .returned (.bool true) ∧ Below w.heap.size w w' := coded_sent ad 11 (by decide) w hS
set_option maxRecDepth 10000 in
set_option maxHeartbeats 1000000 in
theorem pow_any (ad : Nat → Addr) (a : Nat) (n : Int) (w : World) (ha : a < 256) (hS : Sent w ad) :
    Calls Tryd.prog 6 #[.int .u8 (a : Int), .int .i64 n] w fun e w' => e = .returned (.bool true) ∧ Below w.heap.size w w' := by
  by_cases h0 : n = 0
  · subst h0
    have HP : Hid (Gf.power a (red 0) = 1) := by show _ = _; simp [red, Gf.power, Gf.pw, Gf.bitOf]
    go_enter Tryd.func6, Tryd.ntmps6
    go_wp2_with (go_at_call 13; refine (double_any _).mono ?_; rintro e w' ⟨rfl, rfl⟩)
    refine (pow_reg a 0 _ ha (fun _ => rfl)).mono ?_
    rintro e w' ⟨rfl, rfl⟩
    rw [HP.out]
    go_wp2_with fail
    refine (rpow_zero a _).mono ?_
    rintro e w' ⟨rfl, rfl⟩
    go_wp2_with fail
    refine (coded_nil _).mono ?_
    rintro e w' ⟨rfl, rfl⟩
    go_wp2
    go_ret
    exact ⟨rfl, Below.refl _ _⟩
  · by_cases ha0 : a = 0
    · subst ha0
      by_cases hn : n < 0
      · go_enter Tryd.func6, Tryd.ntmps6
        go_wp2_with (go_at_call 13; refine (double_any _).mono ?_; rintro e w' ⟨rfl, rfl⟩)
        refine (pow_err n (ad 11) _ hn hS.c11).mono ?_
        rintro e w2 ⟨rfl, hb2⟩
        go_wp2_with fail
        refine (rpow_neg n _ hn).mono ?_
        rintro e w' ⟨rfl, rfl⟩
        go_wp2_with fail
        refine (coded_zero ad _ (hS.below hb2)).mono ?_
        rintro e w3 ⟨rfl, hb3⟩
        go_wp2
        go_ret
        exact ⟨rfl, hb2.trans (hb3.mono hb2.size)⟩
      · have hn' : 0 < n := by omega
        go_enter Tryd.func6, Tryd.ntmps6
        go_wp2_with (go_at_call 13; refine (double_any _).mono ?_; rintro e w' ⟨rfl, rfl⟩)
        refine (pow_zero_pos n _ hn').mono ?_
        rintro e w' ⟨rfl, rfl⟩
        go_wp2_with fail
        refine (rpow_pos n _ hn').mono ?_
        rintro e w' ⟨rfl, rfl⟩
        go_wp2_with fail
        refine (coded_nil _).mono ?_
        rintro e w' ⟨rfl, rfl⟩
        go_wp2
        go_ret
        exact ⟨rfl, Below.refl _ _⟩
    · have HA : Hid (a ≠ 0) := ha0
      have HN : Hid (n ≠ 0) := h0
      clear ha0 h0
      go_enter Tryd.func6, Tryd.ntmps6
      go_wp2_with (go_at_call 13; refine (double_any _).mono ?_; rintro e w' ⟨rfl, rfl⟩)
      refine (pow_reg a n _ ha (fun h => absurd h HA.out)).mono ?_
      rintro e w' ⟨rfl, rfl⟩
      go_wp2_with fail
      refine (rpow_any a n _ ha HA.out HN.out).mono ?_
      rintro e w' ⟨rfl, rfl⟩
      go_wp2_with fail
      refine (coded_nil _).mono ?_
      rintro e w' ⟨rfl, rfl⟩
      go_wp2
      go_ret
      exact ⟨rfl, Below.refl _ _⟩
end Go.Proofs.YteloekfalmogjaaDoor
