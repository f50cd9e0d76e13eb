/- The statements' closed fact 'unit': the inverse of one that is 1. -/
import Derived.Test.YtmlcbphcphpihaaDoorInvertW
namespace Go.Proofs.YtmlcbphcphpihaaDoor
open Go.RowKit
theorem one_vec (i : Nat) (hi : i < 1) : vec [[1]] i 0 = 1 := by
  obtain rfl : i = 0 := by omega
  rfl
theorem rank_of_one {d : Nat} (h : Lin.IsRank 1 1 (vec [[1]]) d) : d = 1 := by
  refine Lin.rank_unique h ⟨vec [[1]], ?_, fun i hi => Lin.span_self _ hi, fun i hi => Lin.span_self _ hi⟩
  refine Lin.indep_of_leads (fun i => i) (fun _ h => h) (fun i hi => ?_) (fun i j hij hj => by omega)
  obtain rfl : i = 0 := by omega
  rw [one_vec 0 hi]
  exact Lin.one_ne
theorem one_back {x : Nat → Nat → Nat} (hx : ∀ i j, x i j < 256) (h : ∀ i j, i < 1 → j < 1 → Lin.mm 1 (vecF x) (vec [[1]]) i j = Lin.one i j) : x 0 0 = 1 := by
  have h1 := h 0 0 (by decide) (by decide)
  have e1 : Lin.mm 1 (vecF x) (vec [[1]]) 0 0 = toF (x 0 0) := by
    show Lin.ad 0 (Lin.mu (toF (x 0 0)) (vec [[1]] 0 0)) = _
    rw [one_vec 0 (by decide), Lin.mu_one, Lin.zero_ad]
  rw [e1] at h1
  have h2 := congrArg Fin.val h1
  rw [toF_val (hx 0 0)] at h2
  exact h2
theorem isMat_one : IsMat [[1]] := ⟨by decide, by decide, fun i hi => by
  obtain rfl : i = 0 := by simp at hi; exact hi
  exact ⟨by decide, by decide, rfl⟩⟩
theorem bytes_one : BytesM [[1]] := fun i j => by
  match i with
  | 0 =>
    match j with
    | 0 => decide
    | j + 1 => show (([1] : List Nat).getD (j + 1) 0) < 256; simp
  | i + 1 => show ((rowOf [[1]] (i + 1)).getD j 0) < 256; simp [rowOf]
set_option maxRecDepth 10000 in
set_option maxHeartbeats 2000000 in
theorem unit_any (z : Addr) (w : World) (hz : w.cell? ⟨1, 0, none⟩ = some (.iface 106 (.pointer (some z)))) :
    Calls Tryd.prog 7 #[] w fun e w' => e = .returned (.bool true) ∧ Below w.heap.size w w' := by
  obtain ⟨w1, hw1⟩ : ∃ w1, w1 = (w.alloc (.cells #[.int .u8 1] 5)).alloc (.cells #[.slice (some ⟨w.heap.size, 0, none⟩) 1 1] 39) := ⟨_, rfl⟩
  have hb1 : Below w.heap.size w w1 := by rw [hw1]; exact ((Below.refl _ _).alloc (Nat.le_refl _) _).alloc (by simp) _
  have hs1 : w1.heap.size = w.heap.size + 2 := by rw [hw1]; simp
  have hc0 : w1.cell? ⟨w.heap.size, 0, none⟩ = some (.int .u8 1) := by rw [hw1, World.cell?_alloc_past _ _ _ (by simp), World.cell?_alloc_at _ _ _ _ rfl]; rfl
  have hc1 : w1.cell? ⟨w.heap.size + 1, 0, none⟩ = some (.slice (some ⟨w.heap.size, 0, none⟩) 1 1) := by rw [hw1, World.cell?_alloc_at _ _ _ _ (by simp)]; rfl
  have hM1 : Mat w1 (some ⟨w.heap.size + 1, 0, none⟩) [[1]] := by
    refine Or.inr ⟨w.heap.size + 1, 0, rfl, by omega, fun i hi => ?_⟩
    obtain rfl : i = 0 := by simp at hi; exact hi
    refine ⟨some ⟨w.heap.size, 0, none⟩, 1, hc1, ⟨bytes_one 0, Or.inr ⟨w.heap.size, 0, rfl, by omega, fun j hj => ?_⟩⟩, fun h => by cases h⟩
    obtain rfl : j = 0 := by simp [rowOf] at hj; exact hj
    exact hc0
  have hz1 : w1.cell? ⟨1, 0, none⟩ = some (.iface 106 (.pointer (some z))) := (hb1.cell (p := ⟨1, 0, none⟩) (lt_of_cell hz)).trans hz
  have HC := invert_ok (some ⟨w.heap.size + 1, 0, none⟩) [[1]] 1 z w1 isMat_one rfl bytes_one hM1 hz1
  have HW1 : Hid (w1 = (w.alloc (.cells #[.int .u8 1] 5)).alloc (.cells #[.slice (some ⟨w.heap.size, 0, none⟩) 1 1] 39)) := hw1
  have HB1 : Hid (Below w.heap.size w w1) := hb1
  clear hw1 hb1 hc0 hc1 hM1 hz1 hz
  go_enter Tryd.func7, Tryd.ntmps7
  go_wp2_with fail
  rw [← HW1.out]
  refine HC.mono ?_
  rintro e w2 ⟨⟨d, hd, hcase⟩, hb2⟩
  rcases hcase with ⟨hlt, _⟩ | ⟨_, gm, x, rfl, hm, hx, hinv⟩
  · have := rank_of_one hd
    exact absurd hlt (by rw [this]; decide)
  · have hx0 := one_back hx hinv
    obtain ⟨b, o, b1, o1, c, hp, _, _, h1, h2⟩ := hm.row (i := 0) (by rw [matFn_length]; decide) (by rw [rowOf_matFn _ _ _ 0 (by decide), rowFn_length]; decide)
    injection hp with hp
    injection hp with hp1 hp2 _
    subst hp1 hp2
    have h3 := h2 0 (by rw [rowOf_matFn _ _ _ 0 (by decide), rowFn_length]; decide)
    rw [rowOf_matFn _ _ _ 0 (by decide), nth_rowFn _ _ 0 (by decide), hx0] at h3
    rw [rowOf_matFn _ _ _ 0 (by decide), rowFn_length] at h1
    have k1 : w2.cell? ⟨gm, 0, none⟩ = some (.slice (some ⟨b1, o1, none⟩) 1 c) := h1
    have k2 : w2.cell? ⟨b1, o1, none⟩ = some (.int .u8 1) := h3
    have HB2 : Hid (Below w1.heap.size w1 w2) := hb2
    clear h1 h2 h3 hm hinv hx hx0 hb2 HC hd
    go_wp2
    go_ret
    exact ⟨rfl, HB1.out.trans (HB2.out.mono (by omega))⟩
end Go.Proofs.YtmlcbphcphpihaaDoor
