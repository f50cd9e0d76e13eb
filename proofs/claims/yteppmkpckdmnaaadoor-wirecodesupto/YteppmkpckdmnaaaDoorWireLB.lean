/- Messages in the statements: turned into the program's, and back; the same one; how much it is. -/
import Derived.Test.YteppmkpckdmnaaaDoorWireN
import Derived.Test.YteppmkpckdmnaaaDoorRSameVW
namespace Go.Proofs.YteppmkpckdmnaaaDoor
open Go.RowKit
set_option maxRecDepth 10000 in
set_option maxHeartbeats 2000000 in
theorem backWire_any (m : Msg) (p : Option Addr) (n c : Nat) (w : World) :
    Calls Tryd.prog 13 #[msgA m (.slice p n c)] w fun e w' => e = .returned (msgA m (.slice p n c)) ∧ Below w.heap.size w w' := by
  obtain ⟨m1, m2, m3, m4, m5, m6, m7, mL⟩ := m
  unfold msgA
  simp only []
  go_enter Tryd.func13, Tryd.ntmps13
  go_wp2
  refine bodyPost_ret (v := .agg #[.string m1, .string m2, .string m3, .string m4, .int .i64 m5, .int .i64 m6, .bool m7, .slice p n c]) (by simp [results, Tryd.results13, go_sem]) rfl ⟨rfl, ?_⟩
  exact ((Below.refl _ _).alloc (Nat.le_refl _) _).alloc (by simp) _
set_option maxRecDepth 10000 in
set_option maxHeartbeats 4000000 in
theorem sameMsg_yes (m : Msg) (pa pb : Option Addr) (ca cb : Nat) (w : World) (hl : m.L.length ≤ 1000000) (ha : Rec verE w pa m.L) (hb : Rec verE w pb m.L) :
    Calls Tryd.prog 12 #[msgA m (.slice pa m.L.length ca), msgA m (.slice pb m.L.length cb)] w fun e w' => e = .returned (.bool true) ∧ Below w.heap.size w w' := by
  obtain ⟨m1, m2, m3, m4, m5, m6, m7, mL⟩ := m
  unfold msgA
  simp only [] at *
  obtain ⟨w1, hw1⟩ : ∃ w1, w1 = (w.alloc (.cells #[.string m1, .string m2, .string m3, .string m4, .int .i64 m5, .int .i64 m6, .bool m7, .slice pa mL.length ca] 24)).alloc (.cells #[.string m1, .string m2, .string m3, .string m4, .int .i64 m5, .int .i64 m6, .bool m7, .slice pb mL.length cb] 24) := ⟨_, rfl⟩
  have HW1 : Hid (w1 = (w.alloc (.cells #[.string m1, .string m2, .string m3, .string m4, .int .i64 m5, .int .i64 m6, .bool m7, .slice pa mL.length ca] 24)).alloc (.cells #[.string m1, .string m2, .string m3, .string m4, .int .i64 m5, .int .i64 m6, .bool m7, .slice pb mL.length cb] 24)) := hw1
  have hb1 : Below w.heap.size w w1 := by rw [hw1]; exact ((Below.refl _ _).alloc (Nat.le_refl _) _).alloc (by simp) _
  have hsv := sameVers_any pa pb mL mL ca cb w1 hl (ha.below hb1) (hb.below hb1)
  rw [decide_eq_true rfl] at hsv
  have HSV : Hid (Calls Tryd.prog 25 #[.slice pa mL.length ca, .slice pb mL.length cb] w1 fun e w' => e = .returned (.bool true) ∧ Below w1.heap.size w1 w') := hsv
  have HB1 : Hid (Below w.heap.size w w1) := hb1
  clear hsv hb1 hw1 ha hb
  go_enter Tryd.func12, Tryd.ntmps12
  go_wp2_with fail
  rw [← HW1.out]
  refine HSV.out.mono ?_
  rintro e w2 ⟨rfl, hb2⟩
  have HB2 : Hid (Below w.heap.size w w2) := HB1.out.trans (hb2.mono HB1.out.size)
  clear hb2 HSV HW1
  go_wp2
  go_ret
  exact ⟨rfl, HB2.out⟩
end Go.Proofs.YteppmkpckdmnaaaDoor
