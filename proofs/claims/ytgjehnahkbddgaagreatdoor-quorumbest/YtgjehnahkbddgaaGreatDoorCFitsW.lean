/- Package coder: Fits; what Decode asks of each shard. -/
import Derived.Test.YtgjehnahkbddgaaGreatDoorFirstW
import Derived.Test.YtgjehnahkbddgaaGreatDoorEncDW
import Derived.Deep.QuietTactic
import Derived.BigQuiet
namespace Go.Proofs.YtgjehnahkbddgaaGreatDoor
open Go.RowKit
/-- May it be a shard of an object of that size? -/
def fitB (n k : Nat) (size y : Int) (t : ByteArray) : Bool := decide (0 ≤ size ∧ size ≤ 1000 ∧ 0 ≤ y ∧ y < n ∧ t.size = wideN k size.toNat)
set_option maxRecDepth 10000 in
set_option maxHeartbeats 4000000 in
theorem cfits_any (n k : Nat) (size y : Int) (t : ByteArray) (w : World) (hk1 : 1 ≤ k) (hkn : k ≤ n) (hn : n ≤ 12) :
    Calls Tryz.prog 28 #[.int .i64 (n : Int), .int .i64 (k : Int), .int .i64 size, .agg #[.int .i64 y, .string t]] w fun e w' => e = .returned (.bool (fitB n k size y t)) ∧ Below w.heap.size w w' := by
  obtain ⟨w1, hw1⟩ : ∃ w1, w1 = w.alloc (.cells #[.int .i64 y, .string t] 49) := ⟨_, rfl⟩
  have HB1 : Hid (Below w.heap.size w w1) := by rw [hw1]; exact (Below.refl _ _).alloc (Nat.le_refl _) _
  have f0 : w1.cell? ⟨w.heap.size, 0, none⟩ = some (.int .i64 y) := by rw [hw1, World.cell?_alloc_at _ _ _ _ rfl]; rfl
  have f1 : w1.cell? ⟨w.heap.size, 1, none⟩ = some (.string t) := by rw [hw1, World.cell?_alloc_at _ _ _ _ rfl]; rfl
  have HW1 : Hid (w1 = w.alloc (.cells #[.int .i64 y, .string t] 49)) := hw1
  have HM : Hid (∀ W, Calls Tryz.prog 25 #[.int .i64 (n : Int), .int .i64 (k : Int)] W fun e w' => e = .returned (.bool true) ∧ w' = W) := fun W => by
    have h := mfits_any (n : Int) (k : Int) W
    rw [decide_eq_true (show (1 : Int) ≤ (k : Int) ∧ (k : Int) ≤ (n : Int) ∧ (n : Int) ≤ 12 by omega)] at h
    exact h
  clear hw1
  by_cases hs : 0 ≤ size ∧ size ≤ 1000
  · have HS : Hid (∀ W, Calls Tryz.prog 53 #[.int .i64 size] W fun e w' => e = .returned (.bool true) ∧ w' = W) := fun W => szfits_yes _ W hs
    by_cases h1 : 0 ≤ y
    · have d1 : decide (0 ≤ y) = true := decide_eq_true h1
      by_cases h2 : y < (n : Int)
      · have d2 : decide (y < (n : Int)) = true := decide_eq_true h2
        obtain ⟨s, rfl⟩ := Int.eq_ofNat_of_zero_le hs.1
        have HV : Hid (∀ W, Calls Tryz.prog 37 #[.int .i64 (s : Int), .int .i64 (k : Int)] W fun e w' => e = .returned (.int .i64 ((wideN k s : Nat) : Int)) ∧ w' = W) := fun W => width_any s k W hk1 (by omega) (by omega)
        have HR : Hid (fitB n k (s : Int) y t = ((t.size : Int) == ((wideN k s : Nat) : Int))) := by
          show _ = _
          unfold fitB
          rw [Int.toNat_natCast]
          by_cases h3 : t.size = wideN k s
          · rw [decide_eq_true ⟨hs.1, hs.2, h1, h2, h3⟩, h3]; simp
          · rw [decide_eq_false (fun h => h3 h.2.2.2.2)]
            symm
            rw [beq_eq_false_iff_ne]
            omega
        rw [HR.out]
        clear hs
        generalize wideN k s = wd at *
        go_enter Tryz.func28, Tryz.ntmps28
        go_wp2_with (rw [← HW1.out])
        go_quiet (first | (go_at_call 25; exact Calls.quiet_of_same (HM.out _)) | (go_at_call 53; exact Calls.quiet_of_same (HS.out _)) | (go_at_call 37; exact Calls.quiet_of_same (HV.out _)))
        go_wp2
        go_ret
        exact ⟨rfl, below_drewN HB1.out _⟩
      · have d2 : decide (y < (n : Int)) = false := decide_eq_false h2
        have HR : Hid (fitB n k size y t = false) := decide_eq_false fun h => h2 h.2.2.2.1
        rw [HR.out]
        clear hs h2
        go_enter Tryz.func28, Tryz.ntmps28
        go_wp2_with (rw [← HW1.out])
        go_quiet (first | (go_at_call 25; exact Calls.quiet_of_same (HM.out _)) | (go_at_call 53; exact Calls.quiet_of_same (HS.out _)))
        go_wp2
        go_ret
        exact ⟨rfl, below_drewN HB1.out _⟩
    · have d1 : decide (0 ≤ y) = false := decide_eq_false h1
      have HR : Hid (fitB n k size y t = false) := decide_eq_false fun h => h1 h.2.2.1
      rw [HR.out]
      clear hs h1
      go_enter Tryz.func28, Tryz.ntmps28
      go_wp2_with (rw [← HW1.out])
      go_quiet (first | (go_at_call 25; exact Calls.quiet_of_same (HM.out _)) | (go_at_call 53; exact Calls.quiet_of_same (HS.out _)))
      go_wp2
      go_ret
      exact ⟨rfl, below_drewN HB1.out _⟩
  · have HS : Hid (∀ W, Calls Tryz.prog 53 #[.int .i64 size] W fun e w' => e = .returned (.bool false) ∧ w' = W) := fun W => szfits_no _ W hs
    have HR : Hid (fitB n k size y t = false) := decide_eq_false fun h => hs ⟨h.1, h.2.1⟩
    rw [HR.out]
    clear hs
    go_enter Tryz.func28, Tryz.ntmps28
    go_wp2_with (rw [← HW1.out])
    go_quiet (first | (go_at_call 25; exact Calls.quiet_of_same (HM.out _)) | (go_at_call 53; exact Calls.quiet_of_same (HS.out _)))
    go_wp2
    go_ret
    exact ⟨rfl, below_drewN HB1.out _⟩
theorem fit_bad {n k size : Nat} {y : Int} {t : ByteArray} (hs : size ≤ 1000) : (!fitB n k (size : Int) y t) = badB (n : Int) (wideN k size) (y, t) := by
  unfold fitB badB
  rw [Int.toNat_natCast]
  by_cases h1 : y < 0
  · rw [decide_eq_false (fun h => by omega), decide_eq_true h1]; rfl
  · by_cases h2 : (n : Int) ≤ y
    · rw [decide_eq_false (fun h => by omega), decide_eq_true h2]; simp
    · by_cases h3 : t.size = wideN k size
      · rw [decide_eq_true ⟨by omega, by omega, by omega, by omega, h3⟩, decide_eq_false h1, decide_eq_false h2, decide_eq_true h3]; rfl
      · rw [decide_eq_false (fun h => h3 h.2.2.2.2), decide_eq_false h1, decide_eq_false h2, decide_eq_false h3]; rfl
set_option maxRecDepth 10000 in
theorem decode1_any (pn pk ps n k size : Nat) (y : Int) (t : ByteArray) (w : World) (hk1 : 1 ≤ k) (hkn : k ≤ n) (hn : n ≤ 12) (hs : size ≤ 1000) (h1 : w.cell? ⟨pn, 0, none⟩ = some (.int .i64 (n : Int))) (h2 : w.cell? ⟨pk, 0, none⟩ = some (.int .i64 (k : Int))) (h3 : w.cell? ⟨ps, 0, none⟩ = some (.int .i64 (size : Int))) :
    Calls Tryz.prog 33 (#[.agg #[.int .i64 y, .string t]] ++ #[.pointer (some ⟨pn, 0, none⟩), .pointer (some ⟨pk, 0, none⟩), .pointer (some ⟨ps, 0, none⟩)]) w fun e w2 => e = .returned (.bool (badB (n : Int) (wideN k size) (y, t))) ∧ Below w.heap.size w w2 := by
  have hl1 := lt_of_cell h1
  have hl2 := lt_of_cell h2
  have hl3 := lt_of_cell h3
  have HR : Hid ((!fitB n k (size : Int) y t) = badB (n : Int) (wideN k size) (y, t)) := fit_bad hs
  rw [← HR.out]
  obtain ⟨w1, hw1⟩ : ∃ w1, w1 = w.alloc (.cells #[.int .i64 y, .string t] 49) := ⟨_, rfl⟩
  have hb1 : Below w.heap.size w w1 := by rw [hw1]; exact (Below.refl _ _).alloc (Nat.le_refl _) _
  have HB1 : Hid (Below w.heap.size w w1) := hb1
  have f0 : w1.cell? ⟨w.heap.size, 0, none⟩ = some (.int .i64 y) := by rw [hw1, World.cell?_alloc_at _ _ _ _ rfl]; rfl
  have f1 : w1.cell? ⟨w.heap.size, 1, none⟩ = some (.string t) := by rw [hw1, World.cell?_alloc_at _ _ _ _ rfl]; rfl
  have g1 : w1.cell? ⟨pn, 0, none⟩ = some (.int .i64 (n : Int)) := (hb1.cell (p := ⟨pn, 0, none⟩) hl1).trans h1
  have g2 : w1.cell? ⟨pk, 0, none⟩ = some (.int .i64 (k : Int)) := (hb1.cell (p := ⟨pk, 0, none⟩) hl2).trans h2
  have g3 : w1.cell? ⟨ps, 0, none⟩ = some (.int .i64 (size : Int)) := (hb1.cell (p := ⟨ps, 0, none⟩) hl3).trans h3
  have HW1 : Hid (w1 = w.alloc (.cells #[.int .i64 y, .string t] 49)) := hw1
  have HC := cfits_any n k (size : Int) y t w1 hk1 hkn hn
  clear hw1 hb1 h1 h2 h3 HR
  generalize fitB n k (size : Int) y t = fb at *
  go_enter Tryz.func33, Tryz.ntmps33
  go_wp2_with (rw [← HW1.out])
  refine HC.mono ?_
  rintro e w2 ⟨rfl, hb2⟩
  have HB2 : Hid (Below w.heap.size w w2) := HB1.out.trans (hb2.mono HB1.out.size)
  clear HC hb2
  go_wp2
  go_ret
  exact ⟨rfl, HB2.out⟩
end Go.Proofs.YtgjehnahkbddgaaGreatDoor
