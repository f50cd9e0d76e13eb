/- The calls of package field that make no memory: Add, timesX, Mul, power, inverse: each returns what the arithmetic of bytes gives. -/
import Derived.Test.YthokfjkgmopeoaaDoorG1
namespace Go.Proofs.YthokfjkgmopeoaaDoor
open Go.RowKit
theorem add_any (a b : Nat) (w : World) (ha : a < 256) (hb : b < 256) :
    Calls Tryd.prog 38 #[.int .u8 (a : Int), .int .u8 (b : Int)] w fun e w' => e = .returned (.int .u8 ((a ^^^ b : Nat) : Int)) ∧ w' = w := by
  go_enter Tryd.func38, Tryd.ntmps38
  go_wp2
  go_ret
  exact ⟨ret_int (u8_xor_nat a b ha hb), rfl⟩
set_option maxRecDepth 10000 in
theorem tx_any (a : Nat) (w : World) (ha : a < 256)  :
    Calls Tryd.prog 57 #[.int .u8 (a : Int)] w fun e w' => e = .returned (.int .u8 ((Gf.tx a : Nat) : Int)) ∧ w' = w := by
  by_cases h : a < 128
  · go_enter Tryd.func57, Tryd.ntmps57
    go_wp2
    go_ret
    exact ⟨ret_int (by simp [Gf.tx, h]), rfl⟩
  · go_enter Tryd.func57, Tryd.ntmps57
    go_wp2_with fail
    have e : ((a : Int) * 2 % 256) = ((a * 2 - 256 : Nat) : Int) := by omega
    rw [e]
    refine (add_any (a * 2 - 256) 29 _ (by omega) (by decide)).mono ?_
    rintro e w' ⟨rfl, rfl⟩
    go_wp2
    go_ret
    exact ⟨ret_int (by simp [Gf.tx, h]), rfl⟩
set_option maxRecDepth 10000 in
set_option maxHeartbeats 400000 in
theorem mul_any (a b : Nat) (w : World) (ha : a < 256) (hb : b < 256) :
    Calls Tryd.prog 39 #[.int .u8 (a : Int), .int .u8 (b : Int)] w fun e w' => e = .returned (.int .u8 ((Gf.mul a b : Nat) : Int)) ∧ w' = w := by
  go_enter Tryd.func39, Tryd.ntmps39
  go_wp2
  go_loop [0, 5, 7] (fun x p i => ∃ k : Nat, k ≤ 8 ∧ i = .int .i64 k ∧ x = .int .u8 (Gf.txn a k : Nat) ∧ p = .int .u8 (Gf.part a b k : Nat)) (fun _ _ i => 8 - (intOf i).toNat)
  case atStart => exact ⟨0, by omega, rfl, rfl, rfl⟩
  case round =>
    obtain ⟨k, hk, rfl, rfl, rfl⟩ := hrel
    have htx := Gf.txn_lt ha k
    have hpt := Gf.part_lt ha b k
    have hbt := bit_test b k hb
    by_cases hlt : k < 8
    · by_cases hbit : Gf.bitOf b k = 1
      · have HP : Hid (Gf.part a b (k + 1) = Gf.part a b k ^^^ Gf.txn a k) := by show _ = _; simp [Gf.part, hbit]
        rw [decide_eq_true hbit] at hbt
        clear hbit
        go_wp2_with (first | (go_at_call 38; refine (add_any _ _ _ hpt htx).mono ?_; rintro e w' ⟨rfl, rfl⟩) | (go_at_call 57; refine (tx_any _ _ htx).mono ?_; rintro e w' ⟨rfl, rfl⟩))
        go_round
        case rel => exact ⟨k + 1, by omega, by go_num, rfl, by rw [HP.out]⟩
        case measure => simp [intOf]; omega
      · have HP : Hid (Gf.part a b (k + 1) = Gf.part a b k) := by show _ = _; simp [Gf.part, hbit]
        rw [decide_eq_false hbit] at hbt
        clear hbit
        go_wp2_with (first | (go_at_call 38; refine (add_any _ _ _ hpt htx).mono ?_; rintro e w' ⟨rfl, rfl⟩) | (go_at_call 57; refine (tx_any _ _ htx).mono ?_; rintro e w' ⟨rfl, rfl⟩))
        go_round
        case rel => exact ⟨k + 1, by omega, by go_num, rfl, by rw [HP.out]⟩
        case measure => simp [intOf]; omega
    · go_wp2
      go_ret
      have hk8 : k = 8 := by omega
      subst hk8
      exact ⟨rfl, rfl⟩
set_option maxRecDepth 10000 in
set_option maxHeartbeats 400000 in
theorem power_any (a n : Nat) (w : World) (ha : a < 256) (hn : n < 256) :
    Calls Tryd.prog 83 #[.int .u8 (a : Int), .int .i64 (n : Int)] w fun e w' => e = .returned (.int .u8 ((Gf.power a n : Nat) : Int)) ∧ w' = w := by
  go_enter Tryd.func83, Tryd.ntmps83
  go_wp2
  go_loop [0, 5, 7] (fun x p i => ∃ k : Nat, k ≤ 8 ∧ i = .int .i64 k ∧ x = .int .u8 (Gf.sq a k : Nat) ∧ p = .int .u8 (Gf.pw a n k : Nat)) (fun _ _ i => 8 - (intOf i).toNat)
  case atStart => exact ⟨0, by omega, rfl, rfl, rfl⟩
  case round =>
    obtain ⟨k, hk, rfl, rfl, rfl⟩ := hrel
    have htx := Gf.sq_lt ha k
    have hpt := Gf.pw_lt (a := a) n k
    have hbt := bit_test64 n k hn
    by_cases hlt : k < 8
    · by_cases hbit : Gf.bitOf n k = 1
      · have HP : Hid (Gf.pw a n (k + 1) = Gf.mul (Gf.pw a n k) (Gf.sq a k)) := by show _ = _; simp [Gf.pw, hbit]
        rw [decide_eq_true hbit] at hbt
        clear hbit
        go_wp2_with fail
        refine (mul_any _ _ _ hpt htx).mono ?_
        rintro e w' ⟨rfl, rfl⟩
        go_wp2_with fail
        refine (mul_any _ _ _ htx htx).mono ?_
        rintro e w' ⟨rfl, rfl⟩
        go_wp2
        go_round
        case rel => exact ⟨k + 1, by omega, by go_num, rfl, by rw [HP.out]⟩
        case measure => simp [intOf]; omega
      · have HP : Hid (Gf.pw a n (k + 1) = Gf.pw a n k) := by show _ = _; simp [Gf.pw, hbit]
        rw [decide_eq_false hbit] at hbt
        clear hbit
        go_wp2_with fail
        refine (mul_any _ _ _ htx htx).mono ?_
        rintro e w' ⟨rfl, rfl⟩
        go_wp2
        go_round
        case rel => exact ⟨k + 1, by omega, by go_num, rfl, by rw [HP.out]⟩
        case measure => simp [intOf]; omega
    · go_wp2
      go_ret
      have hk8 : k = 8 := by omega
      subst hk8
      exact ⟨rfl, rfl⟩
theorem inverse_any (a : Nat) (w : World) (ha : a < 256) :
    Calls Tryd.prog 85 #[.int .u8 (a : Int)] w fun e w' => e = .returned (.int .u8 ((Gf.inv a : Nat) : Int)) ∧ w' = w := by
  go_enter Tryd.func85, Tryd.ntmps85
  go_wp2_with fail
  refine (power_any a 254 _ ha (by decide)).mono ?_
  rintro e w' ⟨rfl, rfl⟩
  go_wp2
  go_ret
  exact ⟨rfl, rfl⟩
end Go.Proofs.YthokfjkgmopeoaaDoor
