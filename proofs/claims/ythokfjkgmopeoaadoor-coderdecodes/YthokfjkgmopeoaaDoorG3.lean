/- The document's own IsSpread. -/
import Derived.Test.YthokfjkgmopeoaaDoorG1
namespace Go.Proofs.YthokfjkgmopeoaaDoor
open Go.RowKit
theorem isSpread_yes (n k : Int) (w : World) (h1 : 1 ≤ k) (h2 : k ≤ n) (h3 : n ≤ 12) : Calls Tryd.prog 10 #[.int .i64 n, .int .i64 k] w fun e w' => e = .returned (.bool true) ∧ w' = w := by
  go_enter Tryd.func10, Tryd.ntmps10
  go_wp2
  go_ret
  exact ⟨ret_bool (by simp), rfl⟩
theorem isSpread_no (n k : Int) (w : World) (h : ¬ (1 ≤ k ∧ k ≤ n ∧ n ≤ 12)) : Calls Tryd.prog 10 #[.int .i64 n, .int .i64 k] w fun e w' => e = .returned (.bool false) ∧ w' = w := by
  by_cases h1 : 1 ≤ k
  · by_cases h2 : k ≤ n
    · have h3 : ¬ n ≤ 12 := fun h3 => h ⟨h1, h2, h3⟩
      clear h
      go_enter Tryd.func10, Tryd.ntmps10
      go_wp2
      go_ret
      exact ⟨ret_bool (by simp), rfl⟩
    · clear h
      go_enter Tryd.func10, Tryd.ntmps10
      go_wp2
      go_ret
      exact ⟨rfl, rfl⟩
  · clear h
    go_enter Tryd.func10, Tryd.ntmps10
    go_wp2
    go_ret
    exact ⟨rfl, rfl⟩
end Go.Proofs.YthokfjkgmopeoaaDoor
/- The document's own Wide: how many bytes a shard has. -/
namespace Go.Proofs.YthokfjkgmopeoaaDoor
open Go.RowKit
/-- So many bytes, over k, up. -/
def wideN (k size : Nat) : Nat := (size + (k - 1)) / k
theorem wideN_lt {k size i : Nat} (hk : 1 ≤ k) (h : i * k < size) : i < wideN k size := by
  unfold wideN
  rw [Nat.lt_iff_add_one_le, Nat.le_div_iff_mul_le (by omega), Nat.add_mul]
  omega
theorem wideN_ge {k size i : Nat} (hk : 1 ≤ k) (h : ¬ i * k < size) : wideN k size ≤ i := by
  unfold wideN
  rw [← Nat.lt_add_one_iff, Nat.div_lt_iff_lt_mul (by omega), Nat.add_mul]
  omega
theorem wideN_le {k size : Nat} (hk : 1 ≤ k) : wideN k size ≤ size := wideN_ge hk (by
  have : size * 1 ≤ size * k := Nat.mul_le_mul_left size hk
  omega)
set_option maxRecDepth 10000 in
theorem rwide_any (k size : Nat) (w : World) (hk : 1 ≤ k) (hk2 : k ≤ 1000) (hs : size ≤ 1000000) :
    Calls Tryd.prog 24 #[.int .i64 (k : Int), .int .i64 (size : Int)] w fun e w' => e = .returned (.int .i64 ((wideN k size : Nat) : Int)) ∧ w' = w := by
  have hle := wideN_le (size := size) hk
  go_enter Tryd.func24, Tryd.ntmps24
  go_wp2
  go_loop [5] (fun x => ∃ i : Nat, i ≤ wideN k size ∧ x = .int .i64 i) (fun x => wideN k size - (intOf x).toNat)
  case atStart => exact ⟨0, Nat.zero_le _, rfl⟩
  case round =>
    obtain ⟨i, hi, rfl⟩ := hrel
    have hb : i * k ≤ 1000000 * 1000 := Nat.mul_le_mul (by omega) hk2
    have hp0 : (0 : Int) ≤ (i : Int) * (k : Int) := by rw [← Int.natCast_mul]; omega
    have hp1 : (i : Int) * (k : Int) ≤ 1000000000 := by rw [← Int.natCast_mul]; omega
    by_cases hlt : i * k < size
    · have h1 := wideN_lt hk hlt
      have h2 : (i : Int) * (k : Int) < (size : Int) := by rw [← Int.natCast_mul]; omega
      clear hlt hb
      go_wp2
      go_round
      case rel => exact ⟨i + 1, by omega, by go_num⟩
      case measure => simp [intOf]; omega
    · have h1 := wideN_ge hk hlt
      have h2 : ¬ (i : Int) * (k : Int) < (size : Int) := by rw [← Int.natCast_mul]; omega
      obtain rfl : i = wideN k size := by omega
      clear hlt hb
      go_wp2
      go_ret
      exact ⟨rfl, rfl⟩
end Go.Proofs.YthokfjkgmopeoaaDoor
