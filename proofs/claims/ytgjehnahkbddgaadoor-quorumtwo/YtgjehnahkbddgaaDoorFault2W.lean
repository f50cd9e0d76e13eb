/- The statements' own 'faulted'. -/
import Derived.Test.YtgjehnahkbddgaaDoorFaultW
namespace Go.Proofs.YtgjehnahkbddgaaDoor
open Go.RowKit Go.Extern.Stop Go.Stop Go.Extern
set_option maxRecDepth 10000 in
set_option maxHeartbeats 2000000 in
theorem faulted2_any (ad : Nat → Addr) (ev : Value) (c at_ : Int) (w : World) (hS : Sent w ad) (he : ErrIs w ad ev c at_) :
    Calls Tryd.prog 8 #[ev, .agg #[.int .i64 c, .int .i64 at_]] w fun e w' => e = .returned (.bool true) ∧ Below w.heap.size w w' := by
  obtain ⟨w0, hw0⟩ : ∃ w0, w0 = w.alloc (.cells #[.int .i64 c, .int .i64 at_] 28) := ⟨_, rfl⟩
  have hb0 : Below w.heap.size w w0 := by rw [hw0]; exact (Below.refl _ _).alloc (Nat.le_refl _) _
  have q1 : w0.cell? ⟨w.heap.size, 0, none⟩ = some (.int .i64 c) := by rw [hw0, World.cell?_alloc_at _ _ _ _ rfl]; rfl
  have q2 : w0.cell? ⟨w.heap.size, 1, none⟩ = some (.int .i64 at_) := by rw [hw0, World.cell?_alloc_at _ _ _ _ rfl]; rfl
  have HC := code_is ad ev c at_ w0 (hS.below hb0) (he.below hb0)
  have HW0 : Hid (w0 = w.alloc (.cells #[.int .i64 c, .int .i64 at_] 28)) := hw0
  have HB0 : Hid (Below w.heap.size w w0) := hb0
  have HQ : Hid (w0.cell? ⟨w.heap.size, 0, none⟩ = some (.int .i64 c) ∧ w0.cell? ⟨w.heap.size, 1, none⟩ = some (.int .i64 at_) ∧ w.heap.size < w0.heap.size) := ⟨q1, q2, by rw [hw0]; simp⟩
  have HZ : Hid (c = 0 ∨ c ≠ 0) := by
    show c = 0 ∨ c ≠ 0
    omega
  clear hw0 hb0 q1 q2 hS he
  go_enter Tryd.func8, Tryd.ntmps8
  go_wp2_with fail
  rw [← HW0.out]
  refine HC.mono ?_
  rintro e w1 ⟨rfl, hb1⟩
  obtain ⟨q1, q2, hlt⟩ := HQ.out
  have r1 := (hb1.cell (p := ⟨w.heap.size, 0, none⟩) hlt).trans q1
  have r2 := (hb1.cell (p := ⟨w.heap.size, 1, none⟩) hlt).trans q2
  have HB1 : Hid (Below w.heap.size w w1) := HB0.out.trans (hb1.mono HB0.out.size)
  clear HC hb1 q1 q2 HQ HB0 hlt HW0
  rcases HZ.out with hz | hz
  · subst hz
    go_wp2
    go_ret
    exact ⟨rfl, HB1.out⟩
  · have hz2 : (c == 0) = false := by
      rw [beq_eq_false_iff_ne]
      exact hz
    go_wp2
    go_ret
    exact ⟨rfl, HB1.out⟩
end Go.Proofs.YtgjehnahkbddgaaDoor
