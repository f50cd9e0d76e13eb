/- Matrices that lie in memory: a slice of slices of bytes. -/
import Derived.Test.YtmlcbphcphpihaaDoorSegB
import Derived.Test.YtmlcbphcphpihaaDoorGfRank
namespace Go.Proofs.YtmlcbphcphpihaaDoor
open Go.RowKit
/-- In the world w the rows M lie from p on. -/
def Mat (w : World) (p : Option Addr) (M : List (List Nat)) : Prop :=
  M = [] ∨ ∃ b o, p = some ⟨b, o, none⟩ ∧ b < w.heap.size ∧ ∀ i, i < M.length → ∃ q c, w.cell? ⟨b, o + i, none⟩ = some (.slice q (rowOf M i).length c) ∧ Seg w q (rowOf M i) ∧ (q = none → c = 0)
theorem Mat.below {w w' : World} {p : Option Addr} {M : List (List Nat)} (h : Mat w p M) (hb : Below w.heap.size w w') : Mat w' p M := by
  rcases h with h | ⟨b, o, hp, hlt, hc⟩
  · exact Or.inl h
  · refine Or.inr ⟨b, o, hp, Nat.lt_of_lt_of_le hlt hb.size, fun i hi => ?_⟩
    obtain ⟨q, c, h1, h2⟩ := hc i hi
    exact ⟨q, c, (hb.cell (p := ⟨b, o + i, none⟩) hlt).trans h1, h2.1.below hb, h2.2⟩
theorem Mat.drewN {w : World} {p : Option Addr} {M : List (List Nat)} (h : Mat w p M) (n : Nat) : Mat (w.drewN n) p M := h.below (below_drewN (Below.refl _ _) n)
/-- Is one too large for a statement? -/
def wideB (M : List (List Nat)) : Bool := decide (40 < M.length) || !decide (∀ i, i < M.length → (rowOf M i).length ≤ 40)
/-- Rows of as many bytes each, from 1 to 16 of both. -/
def IsMat (M : List (List Nat)) : Prop := 1 ≤ M.length ∧ M.length ≤ 16 ∧ ∀ i, i < M.length → 1 ≤ (rowOf M i).length ∧ (rowOf M i).length ≤ 16 ∧ (rowOf M i).length = (rowOf M 0).length
set_option maxRecDepth 10000 in
set_option maxHeartbeats 1000000 in
theorem wide_any (p : Option Addr) (M : List (List Nat)) (cap : Nat) (w : World) (hl : M.length < 2 ^ 63) (hm : ∀ i, (rowOf M i).length < 2 ^ 63) (h : Mat w p M) :
    Calls Tryd.prog 8 #[.slice p M.length cap] w fun e w' => e = .returned (.bool (wideB M)) ∧ w' = w := by
  by_cases h40 : 40 < M.length
  · have HW : Hid (wideB M = true) := by show wideB M = true; unfold wideB; rw [decide_eq_true h40]; rfl
    go_enter Tryd.func8, Tryd.ntmps8
    go_wp2
    go_ret
    exact ⟨ret_bool HW.out.symm, rfl⟩
  · go_enter Tryd.func8, Tryd.ntmps8
    go_wp2
    go_loop [3] (fun j => ∃ k : Nat, k ≤ M.length ∧ j = .int .i64 k ∧ ∀ i, i < k → (rowOf M i).length ≤ 40) (fun j => M.length - (intOf j).toNat)
    case atStart => exact ⟨0, by omega, rfl, fun i hi => absurd hi (Nat.not_lt_zero _)⟩
    case round =>
      obtain ⟨k, hk, rfl, hr⟩ := hrel
      have HR : Hid (∀ i, i < k → (rowOf M i).length ≤ 40) := hr
      clear hr
      by_cases hlt : k < M.length
      · rcases h with h | ⟨b, o, rfl, hb, hc⟩
        · rw [h] at hlt; simp at hlt
        obtain ⟨q, c, hc1, _⟩ := hc k hlt
        have hmk := hm k
        clear hc
        by_cases hw : (rowOf M k).length ≤ 40
        · have HN : Hid (∀ i, i < k + 1 → (rowOf M i).length ≤ 40) := fun i hi => by
            by_cases e : i = k
            · rw [e]; exact hw
            · exact HR.out i (by omega)
          go_wp2
          go_round
          case rel => exact ⟨k + 1, by omega, by go_num, HN.out⟩
          case measure => simp [intOf]; omega
        · have HW : Hid (wideB M = true) := by
            show wideB M = true
            unfold wideB
            rw [decide_eq_false (fun h' : ∀ i, i < M.length → (rowOf M i).length ≤ 40 => hw (h' k hlt))]
            simp
          go_wp2
          go_ret
          exact ⟨ret_bool HW.out.symm, rfl⟩
      · have hke : k = M.length := by omega
        subst hke
        have HW : Hid (wideB M = false) := by
          show wideB M = false
          unfold wideB
          rw [decide_eq_true HR.out, decide_eq_false h40]
          rfl
        go_wp2
        go_ret
        exact ⟨ret_bool HW.out.symm, rfl⟩
end Go.Proofs.YtmlcbphcphpihaaDoor
