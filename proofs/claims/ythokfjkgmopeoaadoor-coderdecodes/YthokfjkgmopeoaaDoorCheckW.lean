/- Package matrix: Check. -/
import Derived.Test.YthokfjkgmopeoaaDoorG2
import Derived.Test.YthokfjkgmopeoaaDoorCodeW
import Derived.Test.YthokfjkgmopeoaaDoorFieldW
import Derived.Test.YthokfjkgmopeoaaDoorChangeW
import Derived.Deep.QuietTactic
import Derived.BigQuiet
import Derived.WalkSmall
import Derived.Shelf.Abstract
namespace Go.Proofs.YthokfjkgmopeoaaDoor
open Go.RowKit
theorem fits_any (n : Nat) (w : World) (hn : n < 2 ^ 62) : Calls Tryd.prog 64 #[.int .i64 (n : Int)] w fun e w' => e = .returned (.bool (decide (1 ≤ n ∧ n ≤ 16))) ∧ w' = w := by
  by_cases h1 : 1 ≤ n
  · by_cases h2 : n ≤ 16
    · have HD : Hid (decide (1 ≤ n ∧ n ≤ 16) = true) := decide_eq_true ⟨h1, h2⟩
      go_enter Tryd.func64, Tryd.ntmps64
      go_wp2
      go_ret
      exact ⟨ret_bool ((decide_eq_true (by omega)).trans HD.out.symm), rfl⟩
    · have HD : Hid (decide (1 ≤ n ∧ n ≤ 16) = false) := decide_eq_false (fun h => h2 h.2)
      go_enter Tryd.func64, Tryd.ntmps64
      go_wp2
      go_ret
      exact ⟨ret_bool ((decide_eq_false (by omega)).trans HD.out.symm), rfl⟩
  · rw [decide_eq_false (fun h => h1 h.1 : ¬ (1 ≤ n ∧ n ≤ 16))]
    go_enter Tryd.func64, Tryd.ntmps64
    go_wp2
    go_ret
    exact ⟨rfl, rfl⟩
theorem fits_yes (n : Nat) (w : World) (h1 : 1 ≤ n) (h2 : n ≤ 16) : Calls Tryd.prog 64 #[.int .i64 (n : Int)] w fun e w' => e = .returned (.bool true) ∧ w' = w := by
  have := fits_any n w (by omega)
  rw [decide_eq_true (⟨h1, h2⟩ : 1 ≤ n ∧ n ≤ 16)] at this
  exact this
theorem fits_no (n : Nat) (w : World) (hn : n < 2 ^ 62) (h : ¬ (1 ≤ n ∧ n ≤ 16)) : Calls Tryd.prog 64 #[.int .i64 (n : Int)] w fun e w' => e = .returned (.bool false) ∧ w' = w := by
  have := fits_any n w hn
  rw [decide_eq_false h] at this
  exact this
set_option maxRecDepth 10000 in
set_option maxHeartbeats 2000000 in
theorem check_ok (p : Option Addr) (M : List (List Nat)) (cap : Nat) (w : World) (hM : IsMat M) (h : Mat w p M) :
    Calls Tryd.prog 45 #[.slice p M.length cap] w fun e w' => e = .returned .nilIface ∧ w' = w := by
  have HM : Hid (IsMat M) := hM
  have l1 : 1 ≤ M.length := hM.1
  have l2 : M.length ≤ 16 := hM.2.1
  have n1 : 1 ≤ (rowOf M 0).length := (hM.2.2 0 (by omega)).1
  have n2 : (rowOf M 0).length ≤ 16 := (hM.2.2 0 (by omega)).2.1
  clear hM
  rcases h with h | ⟨b, o, rfl, hb, hc⟩
  · rw [h] at l1; simp at l1
  obtain ⟨q0, c0, hc0, _⟩ := hc 0 (by omega)
  have hc0' : w.cell? ⟨b, o, none⟩ = some (.slice q0 (rowOf M 0).length c0) := hc0
  have HC : Hid (∀ i, i < M.length → ∃ q c, w.cell? ⟨b, o + i, none⟩ = some (.slice q (rowOf M 0).length c)) := fun i hi => by
    obtain ⟨q, c, h1, _⟩ := hc i hi
    rw [(HM.out.2.2 i hi).2.2] at h1
    exact ⟨q, c, h1⟩
  clear hc hc0
  generalize (rowOf M 0).length = n at *
  go_enter Tryd.func45, Tryd.ntmps45
  go_wp2_with (first | (go_at_call 64; with_reducible refine (fits_yes M.length _ l1 l2).mono ?_; rintro e w' ⟨rfl, rfl⟩) | (go_at_call 64; refine (fits_yes n _ n1 n2).mono ?_; rintro e w' ⟨rfl, rfl⟩))
  go_loop [20] (fun j => ∃ k : Nat, k ≤ M.length ∧ j = .int .i64 k) (fun j => M.length - (intOf j).toNat)
  case atStart => exact ⟨0, by omega, rfl⟩
  case round =>
    obtain ⟨k, hk, rfl⟩ := hrel
    by_cases hlt : k < M.length
    · obtain ⟨q, c, hq⟩ := HC.out k hlt
      go_wp2
      go_round
      case rel => exact ⟨k + 1, by omega, by go_num⟩
      case measure => simp [intOf]; omega
    · go_wp2
      go_ret
      exact ⟨rfl, rfl⟩
set_option maxRecDepth 10000 in
set_option maxHeartbeats 2000000 in
theorem check_bad (p : Option Addr) (M : List (List Nat)) (cap : Nat) (z : Addr) (w : World) (hl : M.length < 2 ^ 62) (hm : ∀ i, (rowOf M i).length < 2 ^ 62) (hM : ¬ IsMat M) (h : Mat w p M)
    (hz : w.cell? ⟨0, 0, none⟩ = some (.iface 136 (.pointer (some z)))) :
    Calls Tryd.prog 45 #[.slice p M.length cap] w fun e w' => e = .returned (.iface 136 (.pointer (some z))) ∧ w' = w := by
  by_cases hf : 1 ≤ M.length ∧ M.length ≤ 16
  · obtain ⟨l1, l2⟩ := hf
    rcases h with h | ⟨b, o, rfl, hb, hc⟩
    · rw [h] at l1; simp at l1
    obtain ⟨q0, c0, hc0, _⟩ := hc 0 (by omega)
    have hc0' : w.cell? ⟨b, o, none⟩ = some (.slice q0 (rowOf M 0).length c0) := hc0
    have hm0 := hm 0
    have HM : Hid (¬ IsMat M) := hM
    have HC : Hid (∀ i, i < M.length → ∃ q c, w.cell? ⟨b, o + i, none⟩ = some (.slice q (rowOf M i).length c)) := fun i hi => by
      obtain ⟨q, c, h1, _⟩ := hc i hi
      exact ⟨q, c, h1⟩
    clear hc hc0 hM
    by_cases hg : 1 ≤ (rowOf M 0).length ∧ (rowOf M 0).length ≤ 16
    · obtain ⟨n1, n2⟩ := hg
      have HR : Hid (∃ i, i < M.length ∧ (rowOf M i).length ≠ (rowOf M 0).length) := by
        refine Classical.byContradiction fun hno => HM.out ⟨l1, l2, fun i hi => ?_⟩
        have : (rowOf M i).length = (rowOf M 0).length := Classical.byContradiction fun hne => hno ⟨i, hi, hne⟩
        rw [this]
        exact ⟨n1, n2, rfl⟩
      clear HM
      go_enter Tryd.func45, Tryd.ntmps45
      go_wp2_with (first | (go_at_call 64; with_reducible refine (fits_yes M.length _ l1 l2).mono ?_; rintro e w' ⟨rfl, rfl⟩) | (go_at_call 64; refine (fits_yes (rowOf M 0).length _ n1 n2).mono ?_; rintro e w' ⟨rfl, rfl⟩))
      go_loop [20] (fun j => ∃ k : Nat, k ≤ M.length ∧ j = .int .i64 k ∧ ∀ i, i < k → (rowOf M i).length = (rowOf M 0).length) (fun j => M.length - (intOf j).toNat)
      case atStart => exact ⟨0, by omega, rfl, fun i hi => absurd hi (Nat.not_lt_zero _)⟩
      case round =>
        obtain ⟨k, hk, rfl, hall⟩ := hrel
        have HA : Hid (∀ i, i < k → (rowOf M i).length = (rowOf M 0).length) := hall
        clear hall
        by_cases hlt : k < M.length
        · obtain ⟨q, c, hq⟩ := HC.out k hlt
          have hmk := hm k
          by_cases he : (rowOf M k).length = (rowOf M 0).length
          · have HE : Hid ((rowOf M k).length = (rowOf M 0).length) := he
            rw [he] at hq
            clear he
            go_wp2
            go_round
            case rel =>
              refine ⟨k + 1, by omega, by go_num, fun i hi => ?_⟩
              by_cases e : i = k
              · rw [e]; exact HE.out
              · exact HA.out i (by omega)
            case measure => simp [intOf]; omega
          · have ht : (((rowOf M k).length : Int) != ((rowOf M 0).length : Int)) = true := by simp; omega
            clear he
            go_wp2
            go_ret
            exact ⟨rfl, rfl⟩
        · obtain ⟨i, hi, hne⟩ := HR.out
          exact absurd (HA.out i (by omega)) hne
    · have HGN : Hid (¬ (1 ≤ (rowOf M 0).length ∧ (rowOf M 0).length ≤ 16)) := hg
      clear hg
      go_enter Tryd.func45, Tryd.ntmps45
      go_wp2_with (first | (go_at_call 64; with_reducible refine (fits_yes M.length _ l1 l2).mono ?_; rintro e w' ⟨rfl, rfl⟩) | (go_at_call 64; refine (fits_no (rowOf M 0).length _ hm0 HGN.out).mono ?_; rintro e w' ⟨rfl, rfl⟩))
      go_ret
      exact ⟨rfl, rfl⟩
  · have HF : Hid (¬ (1 ≤ M.length ∧ M.length ≤ 16)) := hf
    clear hf
    go_enter Tryd.func45, Tryd.ntmps45
    go_wp2_with (first | (go_at_call 64; refine (fits_no M.length _ hl HF.out).mono ?_; rintro e w' ⟨rfl, rfl⟩))
    go_ret
    exact ⟨rfl, rfl⟩
end Go.Proofs.YthokfjkgmopeoaaDoor
