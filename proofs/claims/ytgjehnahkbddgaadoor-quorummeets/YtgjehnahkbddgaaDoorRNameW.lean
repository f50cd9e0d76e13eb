/- The document's own IsName. -/
import Derived.Test.YtgjehnahkbddgaaDoorNameM
namespace Go.Proofs.YtgjehnahkbddgaaDoor
open Go.RowKit
set_option maxRecDepth 10000 in
set_option maxHeartbeats 4000000 in
theorem isName_any (s : ByteArray) (w : World) (hs : s.size ≤ 1000000) :
    Calls Tryd.prog 27 #[.string s] w fun e w' => e = .returned (.bool (isN s)) ∧ w' = w := by
  by_cases h1 : s.size < 1
  · have HE : Hid (isN s = false) := isN_len (by omega)
    rw [HE.out]
    go_enter Tryd.func27, Tryd.ntmps27
    go_wp2
    go_ret
    exact ⟨rfl, rfl⟩
  by_cases h2 : 16 < s.size
  · have HE : Hid (isN s = false) := isN_len (by omega)
    rw [HE.out]
    go_enter Tryd.func27, Tryd.ntmps27
    go_wp2
    go_ret
    exact ⟨rfl, rfl⟩
  have g1 : decide ((s.size : Int) < 1) = false := decide_eq_false (by omega)
  have g2 : decide (16 < (s.size : Int)) = false := decide_eq_false (by omega)
  have HF : Hid (∀ j, j < s.size → letterB (Gf.nth (bytesOf s) j) = false → isN s = false) := fun j hj h => isN_one hj h
  have HT : Hid ((∀ j, j < s.size → letterB (Gf.nth (bytesOf s) j) = true) → isN s = true) := fun h => isN_all (by omega) (by omega) h
  generalize isN s = r at *
  go_enter Tryd.func27, Tryd.ntmps27
  go_wp2
  go_loop [3] (fun x => ∃ i : Nat, i ≤ s.size ∧ x = .int .i64 i ∧ ∀ j, j < i → letterB (Gf.nth (bytesOf s) j) = true) (fun x => s.size - (intOf x).toNat)
  case atStart => exact ⟨0, Nat.zero_le _, rfl, fun j hj => absurd hj (Nat.not_lt_zero _)⟩
  case round =>
    obtain ⟨i, hi, rfl, hall⟩ := hrel
    have HALL : Hid (∀ j, j < i → letterB (Gf.nth (bytesOf s) j) = true) := hall
    clear hall
    by_cases hil : i < s.size
    · have hix := run_idx s i hil
      have hy := bytesOf_lt s i
      have HB : Hid (letterB (Gf.nth (bytesOf s) i) = false → r = false) := fun h => HF.out i hil h
      have HN : Hid (letterB (Gf.nth (bytesOf s) i) = true → ∀ j, j < i + 1 → letterB (Gf.nth (bytesOf s) j) = true) := fun h j hj => by
        rcases Nat.lt_or_ge j i with h' | h'
        · exact HALL.out j h'
        · obtain rfl : j = i := by omega
          exact h
      clear HF HALL
      generalize Gf.nth (bytesOf s) i = y at *
      rcases (show (97 ≤ y ∧ y ≤ 122) ∨ (48 ≤ y ∧ y ≤ 57) ∨ y = 45 ∨ 122 < y ∨ (57 < y ∧ y < 97) ∨ (y < 48 ∧ y ≠ 45) by omega) with hc | hc | hc | hc | hc | hc
      · have HL : Hid (letterB y = true) := by show _ = _; simp [letterB, hc]
        obtain ⟨hc1, hc2⟩ := hc
        go_wp2
        go_round
        case rel => exact ⟨i + 1, by omega, by go_num, HN.out HL.out⟩
        case measure => simp [intOf]; omega
      · have HL : Hid (letterB y = true) := by show _ = _; simp [letterB, hc]
        obtain ⟨hc1, hc2⟩ := hc
        go_wp2
        go_round
        case rel => exact ⟨i + 1, by omega, by go_num, HN.out HL.out⟩
        case measure => simp [intOf]; omega
      · have HL : Hid (letterB y = true) := by show _ = _; simp [letterB, hc]
        subst hc
        go_wp2
        go_round
        case rel => exact ⟨i + 1, by omega, by go_num, HN.out HL.out⟩
        case measure => simp [intOf]; omega
      · have HL : Hid (r = false) := HB.out (by
          unfold letterB
          rw [decide_eq_false (by omega), decide_eq_false (by omega), decide_eq_false (by omega)]
          rfl)
        have d1 : decide ((y : Int) ≤ 122) = false := decide_eq_false (by omega)
        have d2 : decide ((y : Int) ≤ 57) = false := decide_eq_false (by omega)
        have hc3 : ((y : Int) == 45) = false := by
          rw [beq_eq_false_iff_ne]
          omega
        go_wp2
        go_ret
        exact ⟨by rw [HL.out]; rfl, rfl⟩
      · have HL : Hid (r = false) := HB.out (by
          unfold letterB
          rw [decide_eq_false (by omega), decide_eq_false (by omega), decide_eq_false (by omega)]
          rfl)
        obtain ⟨hc1, hc2⟩ := hc
        have d2 : decide ((y : Int) ≤ 57) = false := decide_eq_false (by omega)
        have hc3 : ((y : Int) == 45) = false := by
          rw [beq_eq_false_iff_ne]
          omega
        go_wp2
        go_ret
        exact ⟨by rw [HL.out]; rfl, rfl⟩
      · have HL : Hid (r = false) := HB.out (by
          unfold letterB
          rw [decide_eq_false (by omega), decide_eq_false (by omega), decide_eq_false (by omega)]
          rfl)
        obtain ⟨hc1, hc2⟩ := hc
        have hc3 : ((y : Int) == 45) = false := by
          rw [beq_eq_false_iff_ne]
          omega
        go_wp2
        go_ret
        exact ⟨by rw [HL.out]; rfl, rfl⟩
    · have hie : i = s.size := by omega
      subst hie
      have HR : Hid (r = true) := HT.out HALL.out
      go_wp2
      go_ret
      exact ⟨by rw [HR.out]; rfl, rfl⟩
end Go.Proofs.YtgjehnahkbddgaaDoor
