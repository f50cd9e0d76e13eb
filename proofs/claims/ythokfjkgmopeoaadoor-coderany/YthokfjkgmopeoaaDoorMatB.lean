/- Matrices that lie in memory: a slice of slices of bytes. -/
import Derived.Test.YthokfjkgmopeoaaDoorSegB
import Derived.Test.YthokfjkgmopeoaaDoorGfAll
namespace Go.Proofs.YthokfjkgmopeoaaDoor
open Go.RowKit
/-- In the world w the rows M lie from p on. -/
def Mat (w : World) (p : Option Addr) (M : List (List Nat)) : Prop :=
  M = [] ∨ ∃ b o, p = some ⟨b, o, none⟩ ∧ b < w.heap.size ∧ ∀ i, i < M.length → ∃ q c, w.cell? ⟨b, o + i, none⟩ = some (.slice q (rowOf M i).length c) ∧ Seg w q (rowOf M i) ∧ (q = none → c = 0)
theorem Mat.below {w w' : World} {p : Option Addr} {M : List (List Nat)} (h : Mat w p M) (hb : Below w.heap.size w w') : Mat w' p M := by
  rcases h with h | ⟨b, o, hp, hlt, hc⟩
  · exact Or.inl h
  · refine Or.inr ⟨b, o, hp, Nat.lt_of_lt_of_le hlt hb.size, fun i hi => ?_⟩
    obtain ⟨q, c, h1, h2⟩ := hc i hi
    exact ⟨q, c, (hb.cell (p := ⟨b, o + i, none⟩) hlt).trans h1, h2.1.below hb, h2.2⟩
theorem Mat.drewN {w : World} {p : Option Addr} {M : List (List Nat)} (h : Mat w p M) (n : Nat) : Mat (w.drewN n) p M := h.below (below_drewN (Below.refl _ _) n)
/-- Is one too large for a statement? -/
def wideB (M : List (List Nat)) : Bool := decide (40 < M.length) || !decide (∀ i, i < M.length → (rowOf M i).length ≤ 40)
/-- Rows of as many bytes each, from 1 to 16 of both. -/
def IsMat (M : List (List Nat)) : Prop := 1 ≤ M.length ∧ M.length ≤ 16 ∧ ∀ i, i < M.length → 1 ≤ (rowOf M i).length ∧ (rowOf M i).length ≤ 16 ∧ (rowOf M i).length = (rowOf M 0).length
end Go.Proofs.YthokfjkgmopeoaaDoor
