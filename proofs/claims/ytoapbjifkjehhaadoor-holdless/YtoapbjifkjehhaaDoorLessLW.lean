/- HoldLess, walked over what package hold is asked. -/
import Derived.Test.YtoapbjifkjehhaaDoorHoldC0
import Derived.Test.YtoapbjifkjehhaaDoorRLessW
import Derived.Test.YtoapbjifkjehhaaDoorQStepB
import Derived.Shelf.SlSortCmp.QuietGrown
namespace Go.Proofs.YtoapbjifkjehhaaDoor
open Go.RowKit Go.Sort
set_option maxRecDepth 10000 in
set_option maxHeartbeats 1600000 in
theorem holdLess_lt {ad : Nat → Addr} {X : World → Prop} {Hd : World → Nat → (Nat → Prop) → List Kep → Bool → Prop} (hO : HoldOk0 ad X Hd) (a1 a2 b1 b2 : Int) (w : World)
    (hH : ∀ W, RowKit.Below w.heap.size w W → Calls Tryd.prog 4 #[] W fun e w' => e = .returned (.bool true) ∧ RowKit.Below W.heap.size W w')
    (x : Bool) (hx : lessB (a1, a2) (b1, b2) = x) (y : Bool) (hy : lessB (b1, b2) (a1, a2) = y) (hne : (¬ a1 = b1 ∧ y = !x) ∨ (a1 = b1 ∧ ¬ a2 = b2 ∧ y = !x) ∨ (a1 = b1 ∧ a2 = b2 ∧ x = false)) :
    Calls Tryd.prog 3 #[.agg #[.int .i64 a1, .int .i64 a2], .agg #[.int .i64 b1, .int .i64 b2]] w fun e w' => e = .returned (.bool true) ∧ RowKit.Below w.heap.size w w' := by
  obtain ⟨w1, hw1⟩ : ∃ w1, w1 = (w.alloc (.cells #[.int .i64 a1, .int .i64 a2] 23)).alloc (.cells #[.int .i64 b1, .int .i64 b2] 23) := ⟨_, rfl⟩
  have hb1 : RowKit.Below w.heap.size w w1 := by rw [hw1]; exact ((RowKit.Below.refl _ _).alloc (Nat.le_refl _) _).alloc (by simp) _
  have hs1 : w1.heap.size = w.heap.size + 2 := by rw [hw1]; simp
  have c0 : w1.cell? ⟨w.heap.size, 0, none⟩ = some (.int .i64 a1) := by rw [hw1]; simp
  have c1 : w1.cell? ⟨w.heap.size, 1, none⟩ = some (.int .i64 a2) := by rw [hw1]; simp
  have c2 : w1.cell? ⟨w.heap.size + 1, 0, none⟩ = some (.int .i64 b1) := by rw [hw1]; simp
  have c3 : w1.cell? ⟨w.heap.size + 1, 1, none⟩ = some (.int .i64 b2) := by rw [hw1]; simp
  have HH := hH w1 hb1
  have HW1 : Hid (w1 = (w.alloc (.cells #[.int .i64 a1, .int .i64 a2] 23)).alloc (.cells #[.int .i64 b1, .int .i64 b2] 23)) := hw1
  have HB1 : Hid (RowKit.Below w.heap.size w w1) := hb1
  have HS1 : Hid (w1.heap.size = w.heap.size + 2) := hs1
  have HC : Hid (w1.cell? ⟨w.heap.size, 0, none⟩ = some (.int .i64 a1) ∧ w1.cell? ⟨w.heap.size, 1, none⟩ = some (.int .i64 a2) ∧ w1.cell? ⟨w.heap.size + 1, 0, none⟩ = some (.int .i64 b1) ∧ w1.cell? ⟨w.heap.size + 1, 1, none⟩ = some (.int .i64 b2)) := ⟨c0, c1, c2, c3⟩
  have HLab : Hid (∀ W, Calls Tryd.prog 5 #[.agg #[.int .i64 a1, .int .i64 a2], .agg #[.int .i64 b1, .int .i64 b2]] W fun e w' => e = .returned (.bool x) ∧ ∃ q os, w' = Sort.grow (W.drewN q) os) := fun W => by have h := hO.less (a1, a2) (b1, b2) W; rw [hx] at h; exact h
  have HLba : Hid (∀ W, Calls Tryd.prog 5 #[.agg #[.int .i64 b1, .int .i64 b2], .agg #[.int .i64 a1, .int .i64 a2]] W fun e w' => e = .returned (.bool y) ∧ ∃ q os, w' = Sort.grow (W.drewN q) os) := fun W => by have h := hO.less (b1, b2) (a1, a2) W; rw [hy] at h; exact h
  have HLaa : Hid (∀ W, Calls Tryd.prog 5 #[.agg #[.int .i64 a1, .int .i64 a2], .agg #[.int .i64 a1, .int .i64 a2]] W fun e w' => e = .returned (.bool false) ∧ ∃ q os, w' = Sort.grow (W.drewN q) os) := fun W => by
    have h := hO.less (a1, a2) (a1, a2) W
    have e : lessB (a1, a2) (a1, a2) = false := by simp [lessB]
    rw [e] at h; exact h
  have HRab : Hid (∀ W, Calls Tryd.prog 6 #[.agg #[.int .i64 a1, .int .i64 a2], .agg #[.int .i64 b1, .int .i64 b2]] W fun e w' => e = .returned (.bool x) ∧ ∃ q os, w' = Sort.grow (W.drewN q) os) := fun W => by have h := rless_grow (a1, a2) (b1, b2) W; rw [hx] at h; exact h
  clear hw1 hb1 hs1 hH c0 c1 c2 c3 hO hx hy
  go_enter Tryd.func3, Tryd.ntmps3
  go_wp2_with (first | rw [← HW1.out])
  refine HH.mono ?_
  rintro e w2 ⟨rfl, hb2⟩
  obtain ⟨c0, c1, c2, c3⟩ := HC.out
  have HW2 : Hid (RowKit.Below w.heap.size w w2) := HB1.out.trans (hb2.mono (by have := HS1.out; omega))
  have f0 : ∀ n os, (grow (w2.drewN n) os).cell? ⟨w.heap.size, 0, none⟩ = some (.int .i64 a1) := cell_grown (by have := HS1.out; have := hb2.size; show w.heap.size < _; omega) (by rw [hb2.cell (p := ⟨w.heap.size, 0, none⟩) (by have := HS1.out; show w.heap.size < _; omega)]; exact c0)
  have f1 : ∀ n os, (grow (w2.drewN n) os).cell? ⟨w.heap.size, 1, none⟩ = some (.int .i64 a2) := cell_grown (by have := HS1.out; have := hb2.size; show w.heap.size < _; omega) (by rw [hb2.cell (p := ⟨w.heap.size, 1, none⟩) (by have := HS1.out; show w.heap.size < _; omega)]; exact c1)
  have f2 : ∀ n os, (grow (w2.drewN n) os).cell? ⟨w.heap.size + 1, 0, none⟩ = some (.int .i64 b1) := cell_grown (by have := HS1.out; have := hb2.size; show w.heap.size + 1 < _; omega) (by rw [hb2.cell (p := ⟨w.heap.size + 1, 0, none⟩) (by have := HS1.out; show w.heap.size + 1 < _; omega)]; exact c2)
  have f3 : ∀ n os, (grow (w2.drewN n) os).cell? ⟨w.heap.size + 1, 1, none⟩ = some (.int .i64 b2) := cell_grown (by have := HS1.out; have := hb2.size; show w.heap.size + 1 < _; omega) (by rw [hb2.cell (p := ⟨w.heap.size + 1, 1, none⟩) (by have := HS1.out; show w.heap.size + 1 < _; omega)]; exact c3)
  clear c0 c1 c2 c3 hb2 HH HW1 HB1 HS1 HC
  rcases hne with ⟨h1, rfl⟩ | ⟨rfl, h2, rfl⟩ | ⟨rfl, rfl, rfl⟩
  all_goals
    go_wp2
    refine wp_region_quiet_grown (by kernel_rfl) (by kernel_rfl) (KeptQ.out ?_)
    repeat (refine qstep (fun K hK => ?_); go_simp; first | (refine hK _ ?_; clear hK K) | (apply Exists.intro; refine ⟨fun _ => ?_, hK _ ?_⟩; (first | with_reducible exact Calls.grown_of (HLaa.out _) | with_reducible exact Calls.grown_of (HLab.out _) | with_reducible exact Calls.grown_of (HRab.out _) | with_reducible exact Calls.grown_of (HLba.out _)); clear hK K))
    refine ⟨wpQuiet_nil ?_⟩
    intro _ hw'
    obtain ⟨⟨nq, osq⟩, hw''⟩ := hw'
    subst hw''
    go_wp2
    go_ret
    exact ⟨by simp, HW2.out.trans ((below_grow w2 nq osq).mono HW2.out.size)⟩
/-- HoldLess holds. -/
theorem holdLess_any {ad : Nat → Addr} {X : World → Prop} {Hd : World → Nat → (Nat → Prop) → List Kep → Bool → Prop} (hO : HoldOk0 ad X Hd) (a1 a2 b1 b2 : Int) (w : World)
    (hH : ∀ W, RowKit.Below w.heap.size w W → Calls Tryd.prog 4 #[] W fun e w' => e = .returned (.bool true) ∧ RowKit.Below W.heap.size W w') :
    Calls Tryd.prog 3 #[.agg #[.int .i64 a1, .int .i64 a2], .agg #[.int .i64 b1, .int .i64 b2]] w fun e w' => e = .returned (.bool true) ∧ RowKit.Below w.heap.size w w' := by
  refine holdLess_lt hO a1 a2 b1 b2 w hH _ rfl _ rfl ?_
  by_cases h1 : a1 = b1
  · subst h1
    by_cases h2 : a2 = b2
    · exact Or.inr (Or.inr ⟨rfl, h2, by subst h2; simp [lessB]⟩)
    · refine Or.inr (Or.inl ⟨rfl, h2, ?_⟩)
      rw [Bool.eq_not]
      intro e
      simp [lessB] at e
      omega
  · refine Or.inl ⟨h1, ?_⟩
    rw [Bool.eq_not]
    intro e
    simp [lessB, h1, Ne.symm h1] at e
    omega
end Go.Proofs.YtoapbjifkjehhaaDoor
