/- The walk of the law FieldMul: whatever the two bytes, the call returns true; nothing that was there is written. -/
import Derived.Test.YteloekfalmogjaaDoorFieldErrW
import Derived.Test.YteloekfalmogjaaDoorRefW
namespace Go.Proofs.YteloekfalmogjaaDoor
open Go.RowKit
theorem coded_zero (ad : Nat → Addr) (w : World) (hS : Sent w ad) :
    Calls Tryd.prog 11 #[.iface 55 (.pointer (some (ad 11))), .int .i64 12] w fun e w' => e = .returned (.bool true) ∧ Below w.heap.size w w' := coded_sent ad 11 (by decide) w hS
theorem mul_as (a b c : Nat) (w : World) (ha : a < 256) (hb : b < 256) (h : Gf.mul a b = c) :
    Calls Tryd.prog 16 #[.int .u8 (a : Int), .int .u8 (b : Int)] w fun e w' => e = .returned (.int .u8 ((c : Nat) : Int)) ∧ w' = w := h ▸ mul_any a b w ha hb
set_option maxRecDepth 10000 in
set_option maxHeartbeats 2000000 in
theorem mulLaw_any (ad : Nat → Addr) (a b : Nat) (w : World) (ha : a < 256) (hb : b < 256) (hS : Sent w ad) :
    Calls Tryd.prog 4 #[.int .u8 (a : Int), .int .u8 (b : Int)] w fun e w' => e = .returned (.bool true) ∧ Below w.heap.size w w' := by
  by_cases h0 : b = 0
  · have HM : Hid (Gf.mul a b = 0) := by show _ = _; rw [h0]; exact Gf.mul_zero a
    have HZ : Hid (b = 0) := h0
    have hz1 : ((b : Int) == 0) = true := by simpa using h0
    clear h0
    go_enter Tryd.func4, Tryd.ntmps4
    go_wp2_with (go_at_call 13; refine (double_any _).mono ?_; rintro e w' ⟨rfl, rfl⟩)
    refine (div_zero' a b HZ.out (ad 11) _ hS.c11).mono ?_
    rintro e w2 ⟨rfl, hb2⟩
    have hS2 := hS.below hb2
    go_wp2_with fail
    refine (inv_zero' b HZ.out (ad 11) _ hS2.c11).mono ?_
    rintro e w3 ⟨rfl, hb3⟩
    have hS3 := hS2.below hb3
    have hb13 := hb2.trans (hb3.mono hb2.size)
    clear hb2 hb3 hS2 hS
    go_wp2_with fail
    refine (coded_zero ad _ hS3).mono ?_
    rintro e w4 ⟨rfl, hb4⟩
    have hS4 := hS3.below hb4
    have hb14 := hb13.trans (hb4.mono hb13.size)
    clear hb13 hb4 hS3
    go_wp2_with fail
    refine (coded_zero ad _ hS4).mono ?_
    rintro e w5 ⟨rfl, hb5⟩
    have hb15 := hb14.trans (hb5.mono hb14.size)
    clear hb14 hb5 hS4
    go_wp2_with fail
    refine (mul_as a b 0 _ ha hb HM.out).mono ?_
    rintro e w' ⟨rfl, rfl⟩
    go_wp2
    go_ret
    exact ⟨rfl, hb15⟩
  · have HN : Hid (b ≠ 0) := h0
    have hz1 : ((b : Int) == 0) = false := by simpa using h0
    have hi := Gf.inv_lt b
    have hx := u8_xor_nat a b ha hb
    clear h0
    go_enter Tryd.func4, Tryd.ntmps4
    go_wp2_with (go_at_call 13; refine (double_any _).mono ?_; rintro e w' ⟨rfl, rfl⟩)
    refine (div_any a b _ ha hb HN.out).mono ?_
    rintro e w' ⟨rfl, rfl⟩
    go_wp2_with fail
    refine (inv_any b _ hb HN.out).mono ?_
    rintro e w' ⟨rfl, rfl⟩
    go_wp2_with fail
    refine (rinv_any b _ hb HN.out).mono ?_
    rintro e w' ⟨rfl, rfl⟩
    go_wp2_with fail
    refine (mul_any a b _ ha hb).mono ?_
    rintro e w' ⟨rfl, rfl⟩
    go_wp2_with fail
    refine (rmul_any a b _ ha hb).mono ?_
    rintro e w' ⟨rfl, rfl⟩
    go_wp2_with fail
    refine (add_any a b _ ha hb).mono ?_
    rintro e w' ⟨rfl, rfl⟩
    go_wp2_with fail
    refine (rmul_any a (Gf.inv b) _ ha hi).mono ?_
    rintro e w' ⟨rfl, rfl⟩
    go_wp2
    go_ret
    exact ⟨rfl, Below.refl _ _⟩
end Go.Proofs.YteloekfalmogjaaDoor
