/- Package matrix: Rank is the rank. -/
import Derived.Test.YtmlcbphcphpihaaDoorReduceW
import Derived.Test.YtmlcbphcphpihaaDoorCloseW
import Derived.Test.YtmlcbphcphpihaaDoorCheckW
import Derived.StillTailTactics
namespace Go.Proofs.YtmlcbphcphpihaaDoor
open Go.RowKit
/-- The blocks of a matrix of the call's own. -/
def blocksOf (gm : Nat) (gs : Nat → Nat) (r : Nat) (k : Nat) : Prop := k = gm ∨ ∃ i, i < r ∧ gs i = k
theorem OwnG.blocks {w : World} {B gm : Nat} {gs : Nat → Nat} {r n : Nat} {f : Nat → Nat → Nat} (h : OwnG w B gm gs r n f) : ∀ k, blocksOf gm gs r k → B ≤ k ∧ k < w.heap.size := fun k hk => by
  rcases hk with rfl | ⟨i, hi, rfl⟩
  · exact h.rows.lt
  · exact (h.all.row i hi).lt
set_option maxRecDepth 10000 in
set_option maxHeartbeats 4000000 in
theorem rank_ok (p : Option Addr) (M : List (List Nat)) (cap : Nat) (z : Addr) (w : World) (hM : IsMat M) (hb : BytesM M) (h : Mat w p M)
    (hz : w.cell? ⟨1, 0, none⟩ = some (.iface 106 (.pointer (some z)))) :
    Calls Tryd.prog 17 #[.slice p M.length cap] w fun e w' => (∃ d : Nat, e = .returned (.tuple #[.int .i64 (d : Int), .nilIface]) ∧ Lin.IsRank (rowOf M 0).length M.length (vec M) d) ∧ Below w.heap.size w w' := by
  have HM : Hid (IsMat M) := hM
  have l1 : 1 ≤ M.length := hM.1
  have l2 : M.length ≤ 16 := hM.2.1
  have n1 : 1 ≤ (rowOf M 0).length := (hM.2.2 0 (by omega)).1
  have n2 : (rowOf M 0).length ≤ 16 := (hM.2.2 0 (by omega)).2.1
  have hzl : 1 < w.heap.size := lt_of_cell hz
  have HBY : Hid (BytesM M) := hb
  have hb1 : Below w.heap.size w (w.alloc (.cells #[.slice p M.length cap] 22)) := (Below.refl _ _).alloc (Nat.le_refl _) _
  obtain ⟨w1, hw1⟩ : ∃ w1, w1 = w.alloc (.cells #[.slice p M.length cap] 22) := ⟨_, rfl⟩
  have hs1 : w1.heap.size = w.heap.size + 1 := by rw [hw1]; simp
  rw [← hw1] at hb1
  have HM1 : Hid (Mat w1 p M) := h.below hb1
  have hp1 : w1.cell? ⟨w.heap.size, 0, none⟩ = some (.slice p M.length cap) := by rw [hw1, World.cell?_alloc_at _ _ _ _ rfl]; rfl
  have HZ1 : Hid (w1.cell? ⟨1, 0, none⟩ = some (.iface 106 (.pointer (some z)))) := (hb1.cell (p := ⟨1, 0, none⟩) hzl).trans hz
  have HB1 : Hid (Below w.heap.size w w1) := hb1
  have HW1 : Hid (w1 = w.alloc (.cells #[.slice p M.length cap] 22)) := hw1
  have HCB : Hid (∀ W : World, Below w1.heap.size w1 W → ∀ i j, i < M.length → j < (rowOf M 0).length → ∀ w2, Below W.heap.size W w2 → Calls Tryd.prog 36 (#[.int .i64 (i : Int), .int .i64 (j : Int)] ++ #[.pointer (some ⟨w.heap.size, 0, none⟩)]) w2 fun e w3 => e = .returned (.int .u8 ((Gf.nth (rowOf M i) j : Nat) : Int)) ∧ Below w2.heap.size w2 w3) := by
    intro W hW i j hi hj w2 h2
    have h12 : Below w1.heap.size w1 w2 := hW.trans (h2.mono hW.size)
    exact rank1_any w.heap.size i j cap p M w2 hi (by rw [(HM.out.2.2 i hi).2.2]; exact hj) ((h12.cell (p := ⟨w.heap.size, 0, none⟩) (by show w.heap.size < _; omega)).trans hp1) (HM1.out.below h12)
  obtain ⟨b, o, b1, o1, c1, hpe, hbb, _, hc1, _⟩ := HM1.out.row (i := 0) (by omega) (by omega)
  have hc0 : w1.cell? ⟨b, o, none⟩ = some (.slice (some ⟨b1, o1, none⟩) (rowOf M 0).length c1) := hc1
  subst hpe
  clear hM hb h hz hb1 hw1 hc1
  go_enter Tryd.func17, Tryd.ntmps17
  go_wp2_with (go_at_call 11; rw [← HW1.out]; refine (check_ok _ M cap _ HM.out HM1.out).mono ?_; rintro e w' ⟨rfl, rfl⟩)
  obtain ⟨w1, rfl⟩ : ∃ w1, w1 = w' := ⟨_, rfl⟩
  have i0 : 0 < M.length := by omega
  have i1 : (0 : Int) < (M.length : Int) := by omega
  refine wp_region_still_tail 7 (by kernel_rfl) (by kernel_rfl) ?_
  simp only [List.take_succ_cons, List.take_zero, List.drop_succ_cons, List.drop_zero]
  repeat still_step
  refine wpStill_nil ?_
  have hbd : Below w1.heap.size w1 (w1.drewN 1) := below_drewN (Below.refl _ _) 1
  change wpList _ _ _ _ _ (w1.drewN 1)
  generalize w1.drewN 1 = w2 at hbd ⊢
  have HBD : Hid (Below w1.heap.size w1 w2) := hbd
  have hs2 : w1.heap.size ≤ w2.heap.size := hbd.size
  clear hbd
  go_wp2_with (first | (go_at_call 26; refine (build_any M.length (rowOf M 0).length (fun i j => Gf.nth (rowOf M i) j) 36 #[.pointer (some ⟨w.heap.size, 0, none⟩)] w2 (by omega) (by omega) (enters_of Tryd.func36 (by kernel_rfl) rfl) (HCB.out w2 HBD.out)).mono ?_; rintro e w3 ⟨⟨gm, gs, rfl, hG3⟩, hb3⟩; have hb13 : Below w1.heap.size w1 w3 := HBD.out.trans (hb3.mono hs2); have hp3 : w3.cell? ⟨w.heap.size, 0, none⟩ = some (.slice (some ⟨b, o, none⟩) M.length cap) := (hb13.cell (p := ⟨w.heap.size, 0, none⟩) (by show w.heap.size < _; omega)).trans hp1; have hc3 : w3.cell? ⟨b, o, none⟩ = some (.slice (some ⟨b1, o1, none⟩) (rowOf M 0).length c1) := (hb13.cell (p := ⟨b, o, none⟩) hbb).trans hc0; have HG3 : Hid (OwnG w3 w2.heap.size gm gs M.length (rowOf M 0).length fun i j => Gf.nth (rowOf M i) j) := hG3; have HB3 : Hid (Below w1.heap.size w1 w3) := hb13; clear hG3 hb3 hb13) | (go_at_call 34; refine (reduce_any (blocksOf gm gs M.length) w2.heap.size gm gs M.length (rowOf M 0).length (rowOf M 0).length (fun i j => Gf.nth (rowOf M i) j) z w3 (by omega) (by omega) (Nat.le_refl _) (fun i j => HBY.out i j) HG3.out (Or.inl rfl) (fun i hi => Or.inr ⟨i, hi, rfl⟩) HG3.out.blocks (by omega) ((HB3.out.cell (p := ⟨1, 0, none⟩) (by show 1 < _; omega)).trans HZ1.out)).mono ?_; rintro e w4 ⟨hF4, d, gs', g, rfl, hG4, hl4, hR4⟩))
  go_ret2
  have hf : Below w2.heap.size w3 w4 := hF4.below (fun k hk => (HG3.out.blocks k hk).1) (Nat.le_of_lt (Nat.lt_of_le_of_lt HG3.out.rows.lt.1 HG3.out.rows.lt.2))
  refine ⟨⟨d, rfl, hR4.rank (Nat.le_refl _)⟩, (HB1.out.trans (HB3.out.mono (by omega))).trans (hf.mono (by omega))⟩
set_option maxRecDepth 10000 in
set_option maxHeartbeats 2000000 in
theorem rank_bad (p : Option Addr) (M : List (List Nat)) (cap : Nat) (z : Addr) (w : World) (hl : M.length < 2 ^ 62) (hm : ∀ i, (rowOf M i).length < 2 ^ 62) (hM : ¬ IsMat M) (h : Mat w p M)
    (hz : w.cell? ⟨0, 0, none⟩ = some (.iface 106 (.pointer (some z)))) :
    Calls Tryd.prog 17 #[.slice p M.length cap] w fun e w' => e = .returned (.tuple #[.int .i64 0, .iface 106 (.pointer (some z))]) ∧ Below w.heap.size w w' := by
  obtain ⟨w1, hw1⟩ : ∃ w1, w1 = w.alloc (.cells #[.slice p M.length cap] 22) := ⟨_, rfl⟩
  have hb1 : Below w.heap.size w w1 := by rw [hw1]; exact (Below.refl _ _).alloc (Nat.le_refl _) _
  have hz1 : w1.cell? ⟨0, 0, none⟩ = some (.iface 106 (.pointer (some z))) := (hb1.cell (p := ⟨0, 0, none⟩) (lt_of_cell hz)).trans hz
  have HC := check_bad p M cap z w1 hl hm hM (h.below hb1) hz1
  have HW1 : Hid (w1 = w.alloc (.cells #[.slice p M.length cap] 22)) := hw1
  clear hl hm hM h hz hz1 hw1
  go_enter Tryd.func17, Tryd.ntmps17
  go_wp2_with (go_at_call 11; rw [← HW1.out]; refine HC.mono ?_; rintro e w' ⟨rfl, rfl⟩)
  go_ret2
  exact ⟨rfl, hb1⟩
end Go.Proofs.YtmlcbphcphpihaaDoor
