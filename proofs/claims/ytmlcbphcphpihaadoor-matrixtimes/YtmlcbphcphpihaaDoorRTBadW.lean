/- The document's own Times, where the two do not go together. -/
import Derived.Test.YtmlcbphcphpihaaDoorInvLawW
namespace Go.Proofs.YtmlcbphcphpihaaDoor
open Go.RowKit
set_option maxRecDepth 10000 in
set_option maxHeartbeats 2000000 in
theorem rtimes_bad (a b : Option Addr) (A B : List (List Nat)) (ca cb : Nat) (w : World) (la : A.length < 2 ^ 62) (ra : ∀ i, (rowOf A i).length < 2 ^ 62) (lb : B.length < 2 ^ 62) (rb : ∀ i, (rowOf B i).length < 2 ^ 62) (hbad : ¬ (IsMat A ∧ IsMat B ∧ (rowOf A 0).length = B.length)) (mA : Mat w a A) (mB : Mat w b B) :
    Calls Tryd.prog 14 #[.slice a A.length ca, .slice b B.length cb] w fun e w' => e = .returned (.tuple #[.slice none 0 0, .bool false]) ∧ Below w.heap.size w w' := by
  have RA : Hid (∀ i, (rowOf A i).length < 2 ^ 63) := fun i => by have := ra i; omega
  have RB : Hid (∀ i, (rowOf B i).length < 2 ^ 63) := fun i => by have := rb i; omega
  have MA : Hid (Mat w a A) := mA
  have MB : Hid (Mat w b B) := mB
  clear mA mB
  by_cases hA : IsMat A
  · have HA : Hid (IsMat A) := hA
    by_cases hB : IsMat B
    · have HBm : Hid (IsMat B) := hB
      have hk : (rowOf A 0).length ≠ B.length := fun h => hbad ⟨hA, hB, h⟩
      have la1 : 1 ≤ A.length := hA.1
      have n1 : 1 ≤ (rowOf A 0).length := (hA.2.2 0 (by omega)).1
      have ht : (((rowOf A 0).length : Int) != (B.length : Int)) = true := by simp; omega
      have ia : (0 : Int) < (A.length : Int) := by omega
      have na : 0 < A.length := by omega
      have rA0 := ra 0
      clear hA hB hk hbad ra rb
      go_enter Tryd.func14, Tryd.ntmps14
      go_wp2_with fail
      refine (isMatrix_yes a A ca _ (by omega) RA.out MA.out HA.out).mono ?_
      rintro e w1 ⟨rfl, hb1⟩
      go_wp2_with fail
      refine (isMatrix_yes b B cb _ (by omega) RB.out (MB.out.below hb1) HBm.out).mono ?_
      rintro e w2 ⟨rfl, hb2⟩
      have hb12 : Below w.heap.size w w2 := hb1.trans (hb2.mono hb1.size)
      obtain ⟨a1, a2, a3, a4, a5, hpe, _, _, ha6, _⟩ := (MA.out.below hb12).row (i := 0) (by omega) (by omega)
      subst hpe
      have cA : w2.cell? ⟨a1, a2, none⟩ = some (.slice (some ⟨a3, a4, none⟩) (rowOf A 0).length a5) := ha6
      have HB12 : Hid (Below w.heap.size w w2) := hb12
      clear ha6 hb1 hb2 hb12
      go_wp2
      go_ret2
      exact ⟨rfl, HB12.out⟩
    · have HBm : Hid (¬ IsMat B) := hB
      clear hA hB hbad ra rb
      go_enter Tryd.func14, Tryd.ntmps14
      go_wp2_with fail
      refine (isMatrix_yes a A ca _ (by omega) RA.out MA.out HA.out).mono ?_
      rintro e w1 ⟨rfl, hb1⟩
      go_wp2_with fail
      refine (isMatrix_no b B cb _ (by omega) RB.out (MB.out.below hb1) HBm.out).mono ?_
      rintro e w2 ⟨rfl, hb2⟩
      have HB12 : Hid (Below w.heap.size w w2) := hb1.trans (hb2.mono hb1.size)
      clear hb1 hb2
      go_wp2
      go_ret2
      exact ⟨rfl, HB12.out⟩
  · have HA : Hid (¬ IsMat A) := hA
    clear hA hbad ra rb
    go_enter Tryd.func14, Tryd.ntmps14
    go_wp2_with fail
    refine (isMatrix_no a A ca _ (by omega) RA.out MA.out HA.out).mono ?_
    rintro e w1 ⟨rfl, hb1⟩
    go_wp2
    go_ret2
    exact ⟨rfl, hb1⟩
end Go.Proofs.YtmlcbphcphpihaaDoor
