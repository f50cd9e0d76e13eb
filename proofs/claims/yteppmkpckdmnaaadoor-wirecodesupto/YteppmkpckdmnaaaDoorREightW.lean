/- The document's own eight bytes of a number. -/
import Derived.Test.YteppmkpckdmnaaaDoorRByteW
import Derived.Test.YteppmkpckdmnaaaDoorWireM
namespace Go.Proofs.YteppmkpckdmnaaaDoor
open Go.RowKit
set_option maxRecDepth 10000 in
set_option maxHeartbeats 1000000 in
theorem eight_any (n : Nat) (w : World) (hn : n ≤ 9223372036854775807) :
    Calls Tryd.prog 18 #[.int .i64 (n : Int)] w fun e w' => e = .returned (.string (ofL (eightL n))) ∧ Below w.heap.size w w' := by
  have HBY : Hid (∀ (m : Nat) (W : World), m < 256 → Calls Tryd.prog 33 #[.int .i64 (m : Int)] W fun e w' => e = .returned (.string (strOf [m])) ∧ Below W.heap.size W w') := fun m W hm => by
    have := rbyte_any m W
    rw [Nat.mod_eq_of_lt hm] at this
    exact this
  have HEND : Hid (strOf (low n 8) = ofL (eightL n)) := ofL_str _
  generalize ofL (eightL n) = R at *
  go_enter Tryd.func18, Tryd.ntmps18
  go_wp2
  go_loopw [0, 3, 4] (fun x s i wr => ∃ k : Nat, k ≤ 8 ∧ i = .int .i64 k ∧ x = .int .i64 ((n / 256 ^ k : Nat) : Int) ∧ s = .string (strOf (low n k)) ∧ Below w.heap.size w wr) (fun _ _ i _ => 8 - (intOf i).toNat)
  case atStart => exact ⟨0, by decide, rfl, by simp, rfl, Below.refl _ _⟩
  case round =>
    obtain ⟨k, hk, rfl, rfl, rfl, hb⟩ := hrel
    obtain ⟨w1, rfl⟩ : ∃ w1, w1 = wr := ⟨_, rfl⟩
    have HB1 : Hid (Below w.heap.size w w1) := hb
    clear hb
    by_cases hk8 : k < 8
    · have hle : n / 256 ^ k ≤ n := Nat.div_le_self _ _
      have HD : Hid (n / 256 ^ (k + 1) = n / 256 ^ k / 256) := by show _ = _; rw [Nat.pow_succ, Nat.div_div_eq_div_mul]
      have HL : Hid (strOf [n / 256 ^ k % 256] ++ strOf (low n k) = strOf (low n (k + 1))) := by show _ = _; rw [strOf_append']; rfl
      have HC : Hid (Calls Tryd.prog 33 #[.int .i64 (((n / 256 ^ k % 256 : Nat) : Int))] w1 fun e w' => e = .returned (.string (strOf [n / 256 ^ k % 256])) ∧ Below w1.heap.size w1 w') := HBY.out _ w1 (by omega)
      have z1 : (strOf [n / 256 ^ k % 256]).size ≤ 1 := by rw [strOf_size]; exact Nat.le_refl _
      have z2 : (strOf (low n k)).size ≤ 8 := by rw [strOf_size, low_length]; exact hk
      generalize strOf (low n k) = s0 at *
      generalize n / 256 ^ k = m at *
      generalize strOf [m % 256] = s1 at *
      have hm : ((m : Int) % 256) = ((m % 256 : Nat) : Int) := by omega
      have HCC : Hid (Calls Tryd.prog 33 #[.int .i64 ((m : Int) % 256)] w1 fun e w' => e = .returned (.string s1) ∧ Below w1.heap.size w1 w') := by rw [hm]; exact HC.out
      clear hm HC
      go_wp2_with fail
      refine HCC.out.mono ?_
      rintro e w2 ⟨rfl, hb2⟩
      have HB2 : Hid (Below w.heap.size w w2) := HB1.out.trans (hb2.mono HB1.out.size)
      clear hb2 HCC
      go_wp2
      go_roundw
      case rel => exact ⟨k + 1, by omega, by go_num, by rw [HD.out, Int.natCast_ediv]; rfl, by rw [← HL.out], HB2.out⟩
      case measure => simp [intOf]; omega
    · obtain rfl : k = 8 := by omega
      rw [HEND.out]
      go_wp2
      go_ret
      exact ⟨rfl, HB1.out⟩
end Go.Proofs.YteppmkpckdmnaaaDoor
