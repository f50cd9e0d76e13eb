/- The document's own Decimal of one digit; which of two points stands ahead. -/
import Derived.Test.YtakfjkphmfblaaaGreatDoorRByteW
import Derived.Test.YtakfjkphmfblaaaGreatDoorRingM
import Derived.Test.YtakfjkphmfblaaaGreatDoorRHashW
namespace Go.Proofs.YtakfjkphmfblaaaGreatDoor
open Go.RowKit
set_option maxRecDepth 10000 in
theorem below_digit (k : Nat) (hk : k < 10) (w : World) : Calls Tryz.prog 38 #[.int .i64 (-(k : Int))] w fun e w' => e = .returned (.string (strOf [48 + k])) ∧ Below w.heap.size w w' := by
  have HB : Hid (∀ W, Calls Tryz.prog 57 #[.int .i64 (48 + (k : Int))] W fun e w' => e = .returned (.string (strOf [48 + k])) ∧ Below W.heap.size W w') := fun W => by
    have h := rbyte_any (48 + k) W
    rw [Nat.mod_eq_of_lt (by omega)] at h
    exact h
  go_enter Tryz.func38, Tryz.ntmps38
  go_wp2_with fail
  refine (HB.out _).mono ?_
  rintro e w1 ⟨rfl, hb1⟩
  clear HB
  go_wp2
  go_ret
  exact ⟨rfl, hb1⟩
set_option maxRecDepth 10000 in
theorem decimal_digit (k : Nat) (hk : k < 10) (w : World) : Calls Tryz.prog 25 #[.int .i64 (k : Int)] w fun e w' => e = .returned (.string (strOf [48 + k])) ∧ Below w.heap.size w w' := by
  have HB := below_digit k hk w
  go_enter Tryz.func25, Tryz.ntmps25
  go_wp2_with fail
  refine HB.mono ?_
  rintro e w1 ⟨rfl, hb1⟩
  clear HB
  go_wp2
  go_ret
  exact ⟨rfl, hb1⟩
/-- Is p ahead of q? -/
def pltB (p q : Nat × ByteArray) : Bool := decide (p.1 < q.1) || (decide (p.1 = q.1) && Op.bytesLess p.2.toList q.2.toList)
theorem pltB_iff {p q : Nat × ByteArray} : pltB p q = true ↔ Ring.plt p q := by
  unfold pltB Ring.plt Ring.bl
  simp [Bool.or_eq_true, Bool.and_eq_true]
set_option maxRecDepth 10000 in
theorem ahead_any (a b : Nat) (x y : ByteArray) (w : World) :
    Calls Tryz.prog 26 #[.agg #[.int .i64 (a : Int), .string x], .agg #[.int .i64 (b : Int), .string y]] w fun e w' => e = .returned (.bool (pltB (a, x) (b, y))) ∧ Below w.heap.size w w' := by
  have HB : Hid (Below w.heap.size w ((w.alloc (.cells #[.int .i64 (a : Int), .string x] 62)).alloc (.cells #[.int .i64 (b : Int), .string y] 62))) := ((Below.refl _ _).alloc (Nat.le_refl _) _).alloc (by simp) _
  by_cases h1 : a < b
  · have HE : Hid (pltB (a, x) (b, y) = true) := by show _ = _; unfold pltB; simp [h1]
    rw [HE.out]
    go_enter Tryz.func26, Tryz.ntmps26
    go_wp2
    go_ret
    exact ⟨rfl, HB.out⟩
  have d1 : decide ((a : Int) < (b : Int)) = false := decide_eq_false (by omega)
  by_cases h2 : a = b
  · subst h2
    have HE : Hid (pltB (a, x) (a, y) = Op.bytesLess x.toList y.toList) := by show _ = _; unfold pltB; simp
    rw [HE.out]
    go_enter Tryz.func26, Tryz.ntmps26
    go_wp2
    go_ret
    exact ⟨rfl, HB.out⟩
  · have HE : Hid (pltB (a, x) (b, y) = false) := by show _ = _; unfold pltB; simp [h1, h2]
    rw [HE.out]
    have d2 : ((a : Int) == (b : Int)) = false := by
      rw [beq_eq_false_iff_ne]
      omega
    go_enter Tryz.func26, Tryz.ntmps26
    go_wp2
    go_ret
    exact ⟨rfl, HB.out⟩
end Go.Proofs.YtakfjkphmfblaaaGreatDoor
