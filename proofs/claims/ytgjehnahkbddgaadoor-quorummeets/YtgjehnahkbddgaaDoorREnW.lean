/- The document's own Enough. -/
import Derived.Test.YtgjehnahkbddgaaDoorRCfgW
namespace Go.Proofs.YtgjehnahkbddgaaDoor
open Go.RowKit
set_option maxRecDepth 10000 in
set_option maxHeartbeats 2000000 in
theorem renough_any (c : Cfg) (lv : Value) (hlv : ∃ p n d, lv = .slice p n d) (w : World) (h : 1 ≤ c.k ∧ c.k ≤ c.n ∧ c.n ≤ 12) :
    Calls Tryd.prog 13 #[cfgA c lv] w fun e w' => e = .returned (.int .i64 ((enoughN c : Nat) : Int)) ∧ Below w.heap.size w w' := by
  obtain ⟨p, nn, d, rfl⟩ := hlv
  obtain ⟨w1, hw1⟩ : ∃ w1, w1 = w.alloc (.cells #[.int .i64 c.n, .int .i64 c.k, .slice p nn d] 24) := ⟨_, rfl⟩
  have HW1 : Hid (w1 = w.alloc (.cells #[.int .i64 c.n, .int .i64 c.k, .slice p nn d] 24)) := hw1
  have HB1 : Hid (Below w.heap.size w w1) := by rw [hw1]; exact (Below.refl _ _).alloc (Nat.le_refl _) _
  have q0 : w1.cell? ⟨w.heap.size, 0, none⟩ = some (.int .i64 c.n) := by rw [hw1, World.cell?_alloc_at _ _ _ _ rfl]; rfl
  have q1 : w1.cell? ⟨w.heap.size, 1, none⟩ = some (.int .i64 c.k) := by rw [hw1, World.cell?_alloc_at _ _ _ _ rfl]; rfl
  have HE : Hid (enoughN c = (c.n.toNat + c.k.toNat + 1) / 2) := by show _ = _; rfl
  generalize enoughN c = E at *
  obtain ⟨cn, ck, L⟩ := c
  unfold cfgA
  simp only [] at *
  obtain ⟨nn', rfl⟩ := Int.eq_ofNat_of_zero_le (show 0 ≤ cn by omega)
  obtain ⟨kk, rfl⟩ := Int.eq_ofNat_of_zero_le (show 0 ≤ ck by omega)
  have hE : E = (nn' + kk + 1) / 2 := HE.out
  clear hw1 HE
  go_enter Tryd.func13, Tryd.ntmps13
  go_wp2
  rw [show w.alloc (.cells #[.int .i64 (nn' : Int), .int .i64 (kk : Int), .slice p nn d] 24) = w1 from HW1.out.symm]
  clear HW1
  have hn12 : nn' ≤ 12 := by omega
  have hk12 : kk ≤ 12 := by omega
  go_loopw [3] (fun x wr => ∃ i : Nat, i ≤ E ∧ x = .int .i64 i ∧ wr = w1) (fun x _ => E - (intOf x).toNat)
  case atStart => exact ⟨0, Nat.zero_le _, rfl, rfl⟩
  case round =>
    obtain ⟨i, hi, rfl, hwr⟩ := hrel
    subst hwr
    by_cases hil : i < E
    · have d1 : decide (2 * (i : Int) < (nn' : Int) + (kk : Int)) = true := decide_eq_true (by omega)
      go_wp2
      go_roundw
      case rel => exact ⟨i + 1, by omega, by go_num, trivial⟩
      case measure => simp [intOf]; omega
    · obtain rfl : i = E := by omega
      have d1 : decide (2 * (i : Int) < (nn' : Int) + (kk : Int)) = false := decide_eq_false (by omega)
      go_wp2
      go_ret
      exact ⟨rfl, HB1.out⟩
end Go.Proofs.YtgjehnahkbddgaaDoor
