/- The document's own answers for chapter 1: Mul and Inv of the reference return what the program's arithmetic gives. -/
import Derived.Test.YthokfjkgmopeoaaDoorG1
import Derived.Test.YthokfjkgmopeoaaDoorGfAll
namespace Go.Proofs.YthokfjkgmopeoaaDoor
open Go.RowKit
set_option maxRecDepth 10000 in
set_option maxHeartbeats 1000000 in
theorem rmul_any (a b : Nat) (w : World) (ha : a < 256) (_hb : b < 256) :
    Calls Tryd.prog 26 #[.int .u8 (a : Int), .int .u8 (b : Int)] w fun e w' => e = .returned (.int .u8 ((Gf.mul a b : Nat) : Int)) ∧ w' = w := by
  go_enter Tryd.func26, Tryd.ntmps26
  go_wp2
  go_loop [5, 6] (fun p i => ∃ k : Nat, k ≤ 8 ∧ i = .int .i64 k ∧ p = .int .i64 (Gf.rprod a b k : Nat)) (fun _ i => 8 - (intOf i).toNat)
  case atStart => exact ⟨0, by omega, rfl, rfl⟩
  case round =>
    obtain ⟨k, hk, rfl, rfl⟩ := hrel
    have hp := Gf.rprod_lt ha b k hk
    by_cases hlt : k < 8
    · have hbt := tmod_test b k
      have hak : a * 2 ^ k < 2 ^ 15 := by
        have h1 : 2 ^ k ≤ 2 ^ 7 := Nat.pow_le_pow_right (by decide) (by omega)
        have h2 : a * 2 ^ k ≤ 255 * 2 ^ 7 := Nat.mul_le_mul (by omega) h1
        omega
      have hw1 : wrap64 ((a : Int) * 2 ^ k) = ((a * 2 ^ k : Nat) : Int) := by
        have := wrap64_small (a * 2 ^ k) (by omega)
        simpa using this
      have HX : Hid (bits .xor .i64 ((Gf.rprod a b k : Nat) : Int) (wrap64 ((a : Int) * 2 ^ k)) = ((Gf.rprod a b k ^^^ (a * 2 ^ k) : Nat) : Int)) := by show _ = _; rw [hw1]; exact i64_xor_nat _ _ (by omega) (by omega)
      clear hw1
      by_cases hbit : Gf.bitOf b k = 1
      · have HP : Hid (Gf.rprod a b (k + 1) = Gf.rprod a b k ^^^ (a * 2 ^ k)) := by show _ = _; simp [Gf.rprod, hbit]
        rw [decide_eq_true hbit] at hbt
        clear hbit
        go_wp2
        exact ⟨⟨k + 1, by omega, by go_num, by rw [HP.out, HX.out]⟩, by simp [intOf]; omega⟩
      · have HP : Hid (Gf.rprod a b (k + 1) = Gf.rprod a b k) := by show _ = _; simp [Gf.rprod, hbit]
        rw [decide_eq_false hbit] at hbt
        clear hbit
        go_wp2
        exact ⟨⟨k + 1, by omega, by go_num, by rw [HP.out]⟩, by simp [intOf]; omega⟩
    · have hk8 : k = 8 := by omega
      subst hk8
      go_wp2
      have hn : Hid (Gf.rprod a b 8 < 2 ^ 15) := hp
      have HR : Hid (Gf.rmod (Gf.rprod a b 8) = Gf.mul a b) := Gf.rmul_eq a b ha
      generalize Gf.rprod a b 8 = n at hn HR hp ⊢
      go_loop [5, 7] (fun p i => ∃ m : Nat, 7 ≤ m ∧ m ≤ 14 ∧ i = .int .i64 m ∧ p = .int .i64 (Gf.rr n (14 - m) : Nat)) (fun _ i => (intOf i).toNat)
      case atStart => exact ⟨14, by omega, by omega, rfl, rfl⟩
      case round =>
        obtain ⟨m, hm7, hm, rfl, rfl⟩ := hrel
        have hp2 := Gf.rr_lt hn.out (14 - m)
        have HE : Hid (Gf.rr n (14 - (m - 1)) = if 8 ≤ m then Gf.rstep m (Gf.rr n (14 - m)) else Gf.rr n (14 - (m - 1))) := by
          show _ = _
          by_cases h8 : 8 ≤ m
          · rw [if_pos h8, show 14 - (m - 1) = (14 - m) + 1 from by omega]
            show Gf.rstep (14 - (14 - m)) _ = _
            rw [show 14 - (14 - m) = m from by omega]
          · rw [if_neg h8]
        by_cases h8 : 8 ≤ m
        · have hbt := tmod_test (Gf.rr n (14 - m)) m
          have h285 : 285 * 2 ^ (m - 8) < 2 ^ 15 := by
            have h1 : 2 ^ (m - 8) ≤ 2 ^ 6 := Nat.pow_le_pow_right (by decide) (by omega)
            have h2 : 285 * 2 ^ (m - 8) ≤ 285 * 2 ^ 6 := Nat.mul_le_mul (Nat.le_refl _) h1
            omega
          have hw1 : wrap64 ((285 : Int) * 2 ^ (m - 8)) = ((285 * 2 ^ (m - 8) : Nat) : Int) := by
            have := wrap64_small (285 * 2 ^ (m - 8)) (by omega)
            simpa using this
          have HX : Hid (bits .xor .i64 ((Gf.rr n (14 - m) : Nat) : Int) (wrap64 ((285 : Int) * 2 ^ (m - 8))) = ((Gf.rr n (14 - m) ^^^ (285 * 2 ^ (m - 8)) : Nat) : Int)) := by show _ = _; rw [hw1]; exact i64_xor_nat _ _ (by omega) (by omega)
          have HE' : Hid (Gf.rr n (14 - (m - 1)) = Gf.rstep m (Gf.rr n (14 - m))) := by have := HE.out; rw [if_pos h8] at this; exact this
          clear hw1 HE
          by_cases hbit : Gf.bitOf (Gf.rr n (14 - m)) m = 1
          · have HP : Hid (Gf.rstep m (Gf.rr n (14 - m)) = Gf.rr n (14 - m) ^^^ (285 * 2 ^ (m - 8))) := by show _ = _; simp [Gf.rstep, hbit]
            rw [decide_eq_true hbit] at hbt
            clear hbit
            go_wp2
            exact ⟨⟨m - 1, by omega, by omega, by congr 1; omega, by rw [HE'.out, HP.out, HX.out]⟩, by simp [intOf]; omega⟩
          · have HP : Hid (Gf.rstep m (Gf.rr n (14 - m)) = Gf.rr n (14 - m)) := by show _ = _; simp [Gf.rstep, hbit]
            rw [decide_eq_false hbit] at hbt
            clear hbit
            go_wp2
            exact ⟨⟨m - 1, by omega, by omega, by congr 1; omega, by rw [HE'.out, HP.out]⟩, by simp [intOf]; omega⟩
        · have hm' : m = 7 := by omega
          subst hm'
          go_wp2
          go_ret
          refine ⟨ret_int ?_, rfl⟩
          have := HR.out
          rw [← this]
          simp [Gf.rmod]
theorem rmul_as (a b c : Nat) (w : World) (ha : a < 256) (hb : b < 256) (h : Gf.mul a b = c) :
    Calls Tryd.prog 26 #[.int .u8 (a : Int), .int .u8 (b : Int)] w fun e w' => e = .returned (.int .u8 ((c : Nat) : Int)) ∧ w' = w := h ▸ rmul_any a b w ha hb
set_option maxRecDepth 10000 in
set_option maxHeartbeats 1000000 in
theorem rinv_any (a : Nat) (w : World) (ha : a < 256) (h0 : a ≠ 0) :
    Calls Tryd.prog 54 #[.int .u8 (a : Int)] w fun e w' => e = .returned (.int .u8 ((Gf.inv a : Nat) : Int)) ∧ w' = w := by
  have hi := Gf.inv_lt a
  have hip := Gf.inv_pos a ha h0
  have HM : Hid (Gf.mul a (Gf.inv a) = 1) := Gf.mul_inv a ha h0
  have HU : Hid (∀ b, b < 256 → Gf.mul a b = 1 → b = Gf.inv a) := fun b hb h => Gf.inv_unique a b ha hb h0 h
  clear h0
  go_enter Tryd.func54, Tryd.ntmps54
  go_wp2
  go_loop [3] (fun i => ∃ k : Nat, 1 ≤ k ∧ k ≤ Gf.inv a ∧ i = .int .i64 k) (fun i => 256 - (intOf i).toNat)
  case atStart => exact ⟨1, by omega, by omega, rfl⟩
  case round =>
    obtain ⟨k, hk1, hk, rfl⟩ := hrel
    by_cases hki : k = Gf.inv a
    · subst hki
      go_wp2_with fail
      refine (rmul_as a (Gf.inv a) 1 _ ha hi HM.out).mono ?_
      rintro e w' ⟨rfl, rfl⟩
      go_wp2
      go_ret
      exact ⟨rfl, rfl⟩
    · have hn1 : (((Gf.mul a k : Nat) : Int) == 1) = false := by
        simp only [beq_eq_false_iff_ne, ne_eq]
        intro h
        exact hki (HU.out k (by omega) (by omega))
      go_wp2_with fail
      refine (rmul_any a k _ ha (by omega)).mono ?_
      rintro e w' ⟨rfl, rfl⟩
      go_wp2
      exact ⟨⟨k + 1, by omega, by omega, by go_num⟩, by simp [intOf]; omega⟩
end Go.Proofs.YthokfjkgmopeoaaDoor
