/- Package ring: is it a name? -/
import Derived.Test.YtgjehnahkbddgaaDoorNameM
import Derived.Test.YtgjehnahkbddgaaDoorRgShW
import Derived.Laws.RangeAny
namespace Go.Proofs.YtgjehnahkbddgaaDoor
open Go.RowKit
set_option maxRecDepth 10000 in
set_option maxHeartbeats 1000000 in
theorem sign_any (r : Nat) (W : World) : Calls Tryd.prog 41 #[.int .i32 (r : Int)] W fun e w' => e = .returned (.bool (!letterB r)) ∧ w' = W := by
  have key : ∀ b, letterB r = b → Hid ((!letterB r) = (!b)) := fun b h => by show _ = _; rw [h]
  rcases (show (97 ≤ r ∧ r ≤ 122) ∨ (48 ≤ r ∧ r ≤ 57) ∨ r = 45 ∨ 122 < r ∨ (57 < r ∧ r < 97) ∨ (r < 48 ∧ r ≠ 45) by omega) with hc | hc | hc | hc | hc | hc
  · have HL := key true (by simp [letterB, hc])
    obtain ⟨hc1, hc2⟩ := hc
    have d1 : decide ((r : Int) < 97) = false := decide_eq_false (by omega)
    have d2 : decide (122 < (r : Int)) = false := decide_eq_false (by omega)
    rw [HL.out]
    clear key
    go_enter Tryd.func41, Tryd.ntmps41
    go_wp2
    go_ret
    exact ⟨rfl, rfl⟩
  · have HL := key true (by simp [letterB, hc])
    obtain ⟨hc1, hc2⟩ := hc
    have d1 : decide ((r : Int) < 97) = true := decide_eq_true (by omega)
    have d3 : decide ((r : Int) < 48) = false := decide_eq_false (by omega)
    have d4 : decide (57 < (r : Int)) = false := decide_eq_false (by omega)
    rw [HL.out]
    clear key
    go_enter Tryd.func41, Tryd.ntmps41
    go_wp2
    go_ret
    exact ⟨rfl, rfl⟩
  · have HL := key true (by simp [letterB, hc])
    subst hc
    rw [HL.out]
    clear key
    go_enter Tryd.func41, Tryd.ntmps41
    go_wp2
    go_ret
    exact ⟨rfl, rfl⟩
  · have HL := key false (by unfold letterB; rw [decide_eq_false (by omega), decide_eq_false (by omega), decide_eq_false (by omega)]; rfl)
    have d1 : decide ((r : Int) < 97) = false := decide_eq_false (by omega)
    have d2 : decide (122 < (r : Int)) = true := decide_eq_true (by omega)
    have d3 : decide ((r : Int) < 48) = false := decide_eq_false (by omega)
    have d4 : decide (57 < (r : Int)) = true := decide_eq_true (by omega)
    have d5 : ((r : Int) != 45) = true := by rw [bne_iff_ne]; omega
    have d6 : ((r : Int) == 45) = false := by rw [beq_eq_false_iff_ne]; omega
    rw [HL.out]
    clear key
    go_enter Tryd.func41, Tryd.ntmps41
    go_wp2
    go_ret
    exact ⟨rfl, rfl⟩
  · have HL := key false (by unfold letterB; rw [decide_eq_false (by omega), decide_eq_false (by omega), decide_eq_false (by omega)]; rfl)
    obtain ⟨hc1, hc2⟩ := hc
    have d1 : decide ((r : Int) < 97) = true := decide_eq_true (by omega)
    have d3 : decide ((r : Int) < 48) = false := decide_eq_false (by omega)
    have d4 : decide (57 < (r : Int)) = true := decide_eq_true (by omega)
    have d5 : ((r : Int) != 45) = true := by rw [bne_iff_ne]; omega
    have d6 : ((r : Int) == 45) = false := by rw [beq_eq_false_iff_ne]; omega
    rw [HL.out]
    clear key
    go_enter Tryd.func41, Tryd.ntmps41
    go_wp2
    go_ret
    exact ⟨rfl, rfl⟩
  · have HL := key false (by unfold letterB; rw [decide_eq_false (by omega), decide_eq_false (by omega), decide_eq_false (by omega)]; rfl)
    obtain ⟨hc1, hc2⟩ := hc
    have d1 : decide ((r : Int) < 97) = true := decide_eq_true (by omega)
    have d3 : decide ((r : Int) < 48) = true := decide_eq_true (by omega)
    have d5 : ((r : Int) != 45) = true := by rw [bne_iff_ne]; omega
    have d6 : ((r : Int) == 45) = false := by rw [beq_eq_false_iff_ne]; omega
    rw [HL.out]
    clear key
    go_enter Tryd.func41, Tryd.ntmps41
    go_wp2
    go_ret
    exact ⟨rfl, rfl⟩
/-- From place i on: a sign that no name has is found just where there is such a byte. -/
theorem idxFrom (s : ByteArray) : ∀ (f i : Nat), s.size ≤ i + f → (decide (0 ≤ Lib.idxFuncFrom (fun r => !letterB r) true s f i) = true ↔ ∃ j, i ≤ j ∧ j < s.size ∧ letterB (Gf.nth (bytesOf s) j) = false)
  | 0, i, h => by
    constructor
    · intro h1
      have h2 : decide ((0 : Int) ≤ -1) = true := h1
      cases h2
    · rintro ⟨j, h1, h2, _⟩
      omega
  | f + 1, i, h => by
    show decide (0 ≤ (if i < s.size then (if (!letterB (Utf8.decode s i).1) = true then (i : Int) else Lib.idxFuncFrom (fun r => !letterB r) true s f (i + (Utf8.decode s i).2)) else -1)) = true ↔ _
    by_cases hi : i < s.size
    · rw [if_pos hi]
      by_cases ha : (s[i]'hi).toNat < 128
      · rw [decode_ascii s i hi ha, ← bytesOf_nth s i hi]
        have ih := idxFrom s f (i + 1) (by omega)
        cases hl : letterB (Gf.nth (bytesOf s) i) with
        | false =>
          rw [if_pos (by rfl)]
          exact ⟨fun _ => ⟨i, Nat.le_refl _, hi, hl⟩, fun _ => decide_eq_true (by omega)⟩
        | true =>
          rw [if_neg (by simp), ih]
          constructor
          · rintro ⟨j, h1, h2, h3⟩
            exact ⟨j, by omega, h2, h3⟩
          · rintro ⟨j, h1, h2, h3⟩
            refine ⟨j, ?_, h2, h3⟩
            by_cases e : j = i
            · rw [e, hl] at h3; cases h3
            · omega
      · have h1 := (decode_high s i hi (by omega)).1
        have hl : letterB (Utf8.decode s i).1 = false := by
          unfold letterB
          rw [decide_eq_false (by omega), decide_eq_false (by omega), decide_eq_false (by omega)]
          rfl
        have hl2 : letterB (Gf.nth (bytesOf s) i) = false := by
          rw [bytesOf_nth s i hi]
          unfold letterB
          rw [decide_eq_false (by omega), decide_eq_false (by omega), decide_eq_false (by omega)]
          rfl
        rw [hl, if_pos (by rfl)]
        exact ⟨fun _ => ⟨i, Nat.le_refl _, hi, hl2⟩, fun _ => decide_eq_true (by omega)⟩
    · rw [if_neg hi]
      constructor
      · intro h1
        cases h1
      · rintro ⟨j, h1, h2, _⟩
        omega
theorem idxOf (s : ByteArray) : decide (0 ≤ Lib.idxFunc (fun r => !letterB r) true s) = !((bytesOf s).all letterB) := by
  have h := idxFrom s s.size 0 (by omega)
  cases ha : (bytesOf s).all letterB with
  | true =>
    rw [show (!true) = false from rfl, Bool.eq_false_iff]
    intro h1
    obtain ⟨j, _, hj, h3⟩ := h.1 h1
    have hj' : j < (bytesOf s).length := by rw [bytesOf_length]; exact hj
    rw [List.all_eq_true] at ha
    have := ha (Gf.nth (bytesOf s) j) (by rw [Gf.nth_getElem _ j hj']; exact List.getElem_mem hj')
    rw [h3] at this
    cases this
  | false =>
    obtain ⟨x, hx, hne⟩ := List.all_eq_false.1 ha
    obtain ⟨j, hj, rfl⟩ := List.getElem_of_mem hx
    refine h.2 ⟨j, Nat.zero_le _, by rw [bytesOf_length] at hj; exact hj, ?_⟩
    rw [Gf.nth_getElem _ j hj]
    exact Bool.eq_false_iff.2 hne
set_option maxRecDepth 10000 in
set_option maxHeartbeats 1000000 in
theorem pname_any (s : ByteArray) (w : World) : Calls Tryd.prog 31 #[.string s] w fun e w' => e = .returned (.bool (isN s)) ∧ Below w.heap.size w w' := by
  by_cases h1 : s.size < 1
  · have HE : Hid (isN s = false) := isN_len (by omega)
    have d1 : decide (1 ≤ (s.size : Int)) = false := decide_eq_false (by omega)
    rw [HE.out]
    go_enter Tryd.func31, Tryd.ntmps31
    go_wp2
    go_ret
    exact ⟨rfl, Below.refl _ _⟩
  have d1 : decide (1 ≤ (s.size : Int)) = true := decide_eq_true (by omega)
  by_cases h2 : 16 < s.size
  · have HE : Hid (isN s = false) := isN_len (by omega)
    have d2 : decide ((s.size : Int) ≤ 16) = false := decide_eq_false (by omega)
    rw [HE.out]
    go_enter Tryd.func31, Tryd.ntmps31
    go_wp2
    go_ret
    exact ⟨rfl, Below.refl _ _⟩
  have d2 : decide ((s.size : Int) ≤ 16) = true := decide_eq_true (by omega)
  have HC := Tryd.strings_ContainsFunc 41 #[] (enters_of Tryd.func41 (by kernel_rfl) rfl) (fun r => !letterB r) s w (fun W r _ => by
    unfold FnGives
    exact (sign_any r W).mono fun _ _ ⟨he, hw⟩ => ⟨he, 0, hw⟩)
  rw [idxOf] at HC
  have HE : Hid (isN s = (bytesOf s).all letterB) := by show _ = _; unfold isN; rw [decide_eq_true ⟨by omega, by omega⟩, Bool.true_and]
  rw [HE.out]
  generalize (bytesOf s).all letterB = r at *
  clear HE
  go_enter Tryd.func31, Tryd.ntmps31
  go_wp2_with fail
  refine HC.mono ?_
  rintro e w1 ⟨rfl, hb1⟩
  clear HC
  cases r with
  | true =>
    go_wp2
    go_ret
    exact ⟨rfl, hb1⟩
  | false =>
    go_wp2
    go_ret
    exact ⟨rfl, hb1⟩
end Go.Proofs.YtgjehnahkbddgaaDoor
