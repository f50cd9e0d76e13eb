/- The walk of the law FieldLaws: whatever the three bytes, the call returns true; nothing that was there is written. -/
import Derived.Test.YteloekfalmogjaaDoorFieldErrW
namespace Go.Proofs.YteloekfalmogjaaDoor
open Go.RowKit
theorem mul_as (a b c : Nat) (w : World) (ha : a < 256) (hb : b < 256) (h : Gf.mul a b = c) :
    Calls Tryd.prog 16 #[.int .u8 (a : Int), .int .u8 (b : Int)] w fun e w' => e = .returned (.int .u8 ((c : Nat) : Int)) ∧ w' = w := h ▸ mul_any a b w ha hb
theorem coded_zero (ad : Nat → Addr) (w : World) (hS : Sent w ad) :
    Calls Tryd.prog 11 #[.iface 55 (.pointer (some (ad 11))), .int .i64 12] w fun e w' => e = .returned (.bool true) ∧ Below w.heap.size w w' := coded_sent ad 11 (by decide) w hS
theorem quot_mul (a b : Nat) (ha : a < 256) (hb : b < 256) (h0 : b ≠ 0) : Gf.mul (Gf.mul a (Gf.inv b)) b = a := by
  rw [Gf.mul_assoc a (Gf.inv b) b ha (Gf.inv_lt b), Gf.inv_mul b hb h0, Gf.mul_one]
set_option maxRecDepth 10000 in
set_option maxHeartbeats 2000000 in
theorem laws_any (ad : Nat → Addr) (a b c : Nat) (w : World) (ha : a < 256) (hb : b < 256) (hc : c < 256) (hS : Sent w ad) :
    Calls Tryd.prog 5 #[.int .u8 (a : Int), .int .u8 (b : Int), .int .u8 (c : Int)] w fun e w' => e = .returned (.bool true) ∧ Below w.heap.size w w' := by
  have hbc := Gf.xlt hb hc
  have hab := Gf.mul_lt ha b
  have hac := Gf.mul_lt ha c
  have hmbc := Gf.mul_lt hb c
  have H1 : Hid (Gf.mul a (b ^^^ c) = Gf.mul a b ^^^ Gf.mul a c) := Gf.mul_right a b c
  have H2 : Hid (Gf.mul b a = Gf.mul a b) := Gf.mul_comm b a hb ha
  have H3 : Hid (Gf.mul a (Gf.mul b c) = Gf.mul (Gf.mul a b) c) := (Gf.mul_assoc a b c ha hb).symm
  have H4 : Hid (Gf.mul a 1 = a) := Gf.mul_one a
  go_enter Tryd.func5, Tryd.ntmps5
  go_wp2_with (go_at_call 13; refine (double_any _).mono ?_; rintro e w' ⟨rfl, rfl⟩)
  refine (add_any b c _ hb hc).mono ?_
  rintro e w' ⟨rfl, rfl⟩
  go_wp2_with fail
  refine (mul_as a (b ^^^ c) _ _ ha hbc H1.out).mono ?_
  rintro e w' ⟨rfl, rfl⟩
  go_wp2_with fail
  refine (mul_any a b _ ha hb).mono ?_
  rintro e w' ⟨rfl, rfl⟩
  go_wp2_with fail
  refine (mul_any a c _ ha hc).mono ?_
  rintro e w' ⟨rfl, rfl⟩
  go_wp2_with fail
  refine (add_any (Gf.mul a b) (Gf.mul a c) _ hab hac).mono ?_
  rintro e w' ⟨rfl, rfl⟩
  go_wp2_with fail
  refine (mul_any a b _ ha hb).mono ?_
  rintro e w' ⟨rfl, rfl⟩
  go_wp2_with fail
  refine (mul_as b a _ _ hb ha H2.out).mono ?_
  rintro e w' ⟨rfl, rfl⟩
  go_wp2_with fail
  refine (mul_any b c _ hb hc).mono ?_
  rintro e w' ⟨rfl, rfl⟩
  go_wp2_with fail
  refine (mul_as a (Gf.mul b c) _ _ ha hmbc H3.out).mono ?_
  rintro e w' ⟨rfl, rfl⟩
  go_wp2_with fail
  refine (mul_any a b _ ha hb).mono ?_
  rintro e w' ⟨rfl, rfl⟩
  go_wp2_with fail
  refine (mul_any (Gf.mul a b) c _ hab hc).mono ?_
  rintro e w' ⟨rfl, rfl⟩
  go_wp2_with fail
  refine (mul_as a 1 a _ ha (by decide) H4.out).mono ?_
  rintro e w' ⟨rfl, rfl⟩
  go_wp2_with fail
  by_cases h0 : b = 0
  · have HZ : Hid (b = 0) := h0
    have hz1 : ((b : Int) == 0) = true := by simpa using h0
    clear h0
    refine (div_zero' a b HZ.out (ad 11) _ hS.c11).mono ?_
    rintro e w2 ⟨rfl, hb2⟩
    go_wp2_with fail
    refine (coded_zero ad _ (hS.below hb2)).mono ?_
    rintro e w3 ⟨rfl, hb3⟩
    go_wp2
    go_ret
    exact ⟨rfl, hb2.trans (hb3.mono hb2.size)⟩
  · have hz1 : ((b : Int) == 0) = false := by simpa using h0
    have HQ : Hid (Gf.mul (Gf.mul a (Gf.inv b)) b = a) := quot_mul a b ha hb h0
    refine (div_any a b _ ha hb h0).mono ?_
    rintro e w2 ⟨rfl, rfl⟩
    clear h0
    go_wp2_with fail
    refine (mul_as (Gf.mul a (Gf.inv b)) b a _ (Gf.mul_lt ha _) hb HQ.out).mono ?_
    rintro e w2 ⟨rfl, rfl⟩
    go_wp2
    go_ret
    exact ⟨rfl, Below.refl _ _⟩
end Go.Proofs.YteloekfalmogjaaDoor
