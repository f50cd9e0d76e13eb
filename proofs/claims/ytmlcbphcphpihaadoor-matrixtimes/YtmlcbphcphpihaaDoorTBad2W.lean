/- Package matrix: Times, where the two do not go together. -/
import Derived.Test.YtmlcbphcphpihaaDoorTimesW
namespace Go.Proofs.YtmlcbphcphpihaaDoor
open Go.RowKit
set_option maxRecDepth 10000 in
set_option maxHeartbeats 2000000 in
theorem mtimes_bad2 (a b : Option Addr) (A B : List (List Nat)) (ca cb : Nat) (z : Addr) (w : World) (hA : IsMat A) (hB : ¬ IsMat B) (lb : B.length < 2 ^ 62) (rb : ∀ i, (rowOf B i).length < 2 ^ 62) (mA : Mat w a A) (mB : Mat w b B)
    (hz : w.cell? ⟨0, 0, none⟩ = some (.iface 106 (.pointer (some z)))) :
    Calls Tryd.prog 13 #[.slice a A.length ca, .slice b B.length cb] w fun e w' => e = .returned (.tuple #[.slice none 0 0, .iface 106 (.pointer (some z))]) ∧ Below w.heap.size w w' := by
  obtain ⟨w1, hw1⟩ : ∃ w1, w1 = (w.alloc (.cells #[.slice a A.length ca] 22)).alloc (.cells #[.slice b B.length cb] 22) := ⟨_, rfl⟩
  have hb1 : Below w.heap.size w w1 := by rw [hw1]; exact ((Below.refl _ _).alloc (Nat.le_refl _) _).alloc (by simp) _
  have hA1 : w1.cell? ⟨w.heap.size, 0, none⟩ = some (.slice a A.length ca) := by rw [hw1, World.cell?_alloc_past _ _ _ (by simp), World.cell?_alloc_at _ _ _ _ rfl]; rfl
  have hB1 : w1.cell? ⟨w.heap.size + 1, 0, none⟩ = some (.slice b B.length cb) := by rw [hw1, World.cell?_alloc_at _ _ _ _ (by simp)]; rfl
  have hz1 : w1.cell? ⟨0, 0, none⟩ = some (.iface 106 (.pointer (some z))) := (hb1.cell (p := ⟨0, 0, none⟩) (lt_of_cell hz)).trans hz
  have MA1 : Hid (Mat w1 a A) := mA.below hb1
  have MB1 : Hid (Mat w1 b B) := mB.below hb1
  have HC : Hid (∀ n, Calls Tryd.prog 11 #[.slice a A.length ca] (w1.drewN n) fun e w' => e = .returned .nilIface ∧ w' = w1.drewN n) := fun n => check_ok a A ca _ hA (MA1.out.drewN n)
  have HD : Hid (∀ n, Calls Tryd.prog 11 #[.slice b B.length cb] (w1.drewN n) fun e w' => e = .returned (.iface 106 (.pointer (some z))) ∧ w' = w1.drewN n) := fun n => check_bad b B cb z _ lb rb hB (MB1.out.drewN n) hz1
  clear hA hB lb rb
  have HW1 : Hid (w1 = (w.alloc (.cells #[.slice a A.length ca] 22)).alloc (.cells #[.slice b B.length cb] 22)) := hw1
  clear hw1
  have HB1 : Hid (Below w.heap.size w w1) := hb1
  have HZ1 : Hid (w1.cell? ⟨0, 0, none⟩ = some (.iface 106 (.pointer (some z)))) := hz1
  clear mA mB hb1 hz1 hz
  go_enter Tryd.func13, Tryd.ntmps13
  go_wp2_with fail
  rw [← HW1.out]
  go_quiet ((go_at_call 11; first | with_reducible exact Calls.quiet_of_same (HC.out _) | exact Calls.quiet_of_same (HD.out _)))
  have hbq : Below w.heap.size w (w1.drewN nq) := below_drewN HB1.out _
  have qz : (w1.drewN nq).cell? ⟨0, 0, none⟩ = some (.iface 106 (.pointer (some z))) := HZ1.out
  generalize w1.drewN nq = w2 at hbq qz ⊢
  have HBQ : Hid (Below w.heap.size w w2) := hbq
  clear hbq
  go_wp2
  go_quiet (fail)
  go_wp2
  go_ret2
  exact ⟨rfl, below_drewN HBQ.out _⟩
end Go.Proofs.YtmlcbphcphpihaaDoor
