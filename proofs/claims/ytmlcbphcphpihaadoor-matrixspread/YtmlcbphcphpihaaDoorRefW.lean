/- The document's own answers for chapter 1: Pow of the reference returns what the program's arithmetic gives. -/
import Derived.Test.YtmlcbphcphpihaaDoorRefMulW
namespace Go.Proofs.YtmlcbphcphpihaaDoor
open Go.RowKit
theorem rpow_zero (a : Nat) (w : World) :
    Calls Tryd.prog 23 #[.int .u8 (a : Int), .int .i64 0] w fun e w' => e = .returned (.tuple #[.int .u8 1, .int .i64 0]) ∧ w' = w := by
  go_enter Tryd.func23, Tryd.ntmps23
  go_wp2
  go_ret2
  exact ⟨rfl, rfl⟩
theorem rpow_neg (n : Int) (w : World) (hn : n < 0) :
    Calls Tryd.prog 23 #[.int .u8 0, .int .i64 n] w fun e w' => e = .returned (.tuple #[.int .u8 0, .int .i64 12]) ∧ w' = w := by
  go_enter Tryd.func23, Tryd.ntmps23
  go_wp2
  go_ret2
  exact ⟨rfl, rfl⟩
theorem rpow_pos (n : Int) (w : World) (hn : 0 < n) :
    Calls Tryd.prog 23 #[.int .u8 0, .int .i64 n] w fun e w' => e = .returned (.tuple #[.int .u8 0, .int .i64 0]) ∧ w' = w := by
  go_enter Tryd.func23, Tryd.ntmps23
  go_wp2
  go_ret2
  exact ⟨rfl, rfl⟩
set_option maxRecDepth 10000 in
set_option maxHeartbeats 1000000 in
theorem rpow_any (a : Nat) (n : Int) (w : World) (ha : a < 256) (h0 : a ≠ 0) (hn : n ≠ 0) :
    Calls Tryd.prog 23 #[.int .u8 (a : Int), .int .i64 n] w fun e w' => e = .returned (.tuple #[.int .u8 (Gf.power a (red n) : Nat), .int .i64 0]) ∧ w' = w := by
  have hr := red_lt n
  have HR : Hid (((red n : Nat) : Int) = n % 255) := red_cast n
  have HP : Hid (Gf.power a (red n) = Gf.rep a (red n)) := Gf.power_rep a (red n) ha (by omega)
  have h1 : ((a : Int) == 0) = false := by simpa using h0
  have h2 : (n == 0) = false := by simpa using hn
  have HT : Hid (n.tmod 255 = if 0 ≤ n then n % 255 else -((-n) % 255)) := by
    show _ = _
    by_cases h : 0 ≤ n
    · rw [if_pos h, Int.tmod_eq_emod_of_nonneg h]
    · rw [if_neg h, tmod_neg, Int.tmod_eq_emod_of_nonneg (by omega)]
  clear h0 hn
  have hb1 : -255 < n.tmod 255 := by rw [HT.out]; split <;> omega
  have hb2 : n.tmod 255 < 255 := by rw [HT.out]; split <;> omega
  by_cases hneg : n.tmod 255 < 0
  · have HK : Hid (n.tmod 255 + 255 = ((red n : Nat) : Int)) := by
      show _ = _
      have h3 := HR.out
      have h4 := HT.out
      by_cases h : 0 ≤ n
      · rw [if_pos h] at h4; omega
      · rw [if_neg h] at h4; omega
    go_enter Tryd.func23, Tryd.ntmps23
    go_wp2
    rw [HK.out]
    clear hb1 hb2 hneg
    go_loop [7, 8] (fun o i => ∃ k : Nat, k ≤ red n ∧ i = .int .i64 k ∧ o = .int .u8 (Gf.rep a k : Nat)) (fun _ i => 255 - (intOf i).toNat)
    case atStart => exact ⟨0, by omega, rfl, rfl⟩
    case round =>
      obtain ⟨k, hk, rfl, rfl⟩ := hrel
      have hl := Gf.rep_lt a k
      by_cases hlt : k < red n
      · go_wp2_with (go_at_call 31; refine (rmul_any _ a _ hl ha).mono ?_; rintro e w' ⟨rfl, rfl⟩)
        go_round
        case rel => exact ⟨k + 1, by omega, by go_num, rfl⟩
        case measure => simp [intOf]; omega
      · have hke : k = red n := by omega
        subst hke
        go_wp2
        go_ret2
        exact ⟨by simp [HP.out], rfl⟩
  · have HK : Hid (n.tmod 255 = ((red n : Nat) : Int)) := by
      show _ = _
      have h3 := HR.out
      have h4 := HT.out
      by_cases h : 0 ≤ n
      · rw [if_pos h] at h4; omega
      · rw [if_neg h] at h4; omega
    go_enter Tryd.func23, Tryd.ntmps23
    go_wp2
    rw [HK.out]
    clear hb1 hb2 hneg
    go_loop [7, 8] (fun o i => ∃ k : Nat, k ≤ red n ∧ i = .int .i64 k ∧ o = .int .u8 (Gf.rep a k : Nat)) (fun _ i => 255 - (intOf i).toNat)
    case atStart => exact ⟨0, by omega, rfl, rfl⟩
    case round =>
      obtain ⟨k, hk, rfl, rfl⟩ := hrel
      have hl := Gf.rep_lt a k
      by_cases hlt : k < red n
      · go_wp2_with (go_at_call 31; refine (rmul_any _ a _ hl ha).mono ?_; rintro e w' ⟨rfl, rfl⟩)
        go_round
        case rel => exact ⟨k + 1, by omega, by go_num, rfl⟩
        case measure => simp [intOf]; omega
      · have hke : k = red n := by omega
        subst hke
        go_wp2
        go_ret2
        exact ⟨by simp [HP.out], rfl⟩
end Go.Proofs.YtmlcbphcphpihaaDoor
