/- The blocks of a matrix of the call's own. -/
import Derived.Test.YthokfjkgmopeoaaDoorReduceW
namespace Go.Proofs.YthokfjkgmopeoaaDoor
open Go.RowKit
/-- The blocks of a matrix of the call's own. -/
def blocksOf (gm : Nat) (gs : Nat → Nat) (r : Nat) (k : Nat) : Prop := k = gm ∨ ∃ i, i < r ∧ gs i = k
theorem OwnG.blocks {w : World} {B gm : Nat} {gs : Nat → Nat} {r n : Nat} {f : Nat → Nat → Nat} (h : OwnG w B gm gs r n f) : ∀ k, blocksOf gm gs r k → B ≤ k ∧ k < w.heap.size := fun k hk => by
  rcases hk with rfl | ⟨i, hi, rfl⟩
  · exact h.rows.lt
  · exact (h.all.row i hi).lt
end Go.Proofs.YthokfjkgmopeoaaDoor
