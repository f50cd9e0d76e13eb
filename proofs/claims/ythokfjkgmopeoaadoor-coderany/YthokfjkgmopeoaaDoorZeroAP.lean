/- The variable ErrZero among those that are laid for a law that meets no error. -/
import Derived.Test.YthokfjkgmopeoaaDoorSentP
import Derived.ProofKit
import Derived.OpenShut
import Derived.ChangeOld
namespace Go.Proofs.YthokfjkgmopeoaaDoor
open Go.ChangeShapes Go.WideShapes Go.ChangeAt Go.RowKit
/-- They, by name and text. -/
def LA : List (String × List UInt8) := Rows.coderAnyRow.laid.map fun x => (x.1, match x.2 with | .iface _ (.ptr (.agg [.lit (.string t)])) => t | _ => [])
theorem LA_laid (W : World) : laidMetH Tryd.prog Rows.coderAnyRow.laid W = laidMet Tryd.prog (LA.map fun x => (x.1, errD x.2)) W := by kernel_rfl
theorem LA_named : (LA.all fun x => match Tryd.prog.globalNamed x.1 with | some g => (Tryd.prog.globals[g]?).map (·.type) == some 25 | none => false) = true := by kernel_rfl
theorem LA_g : LA.map (fun x => Tryd.prog.globalNamed x.1) = [some 2, some 0, some 1, some 11] := by kernel_rfl
theorem zero_of_LA {W : World} (h : laidMetH Tryd.prog Rows.coderAnyRow.laid W) : ∃ z, W.cell? ⟨11, 0, none⟩ = some (.iface 136 (.pointer (some z))) := by
  rw [LA_laid] at h
  obtain ⟨ps, hl, _, hr⟩ := h
  have hn : ∀ x ∈ LA, ∃ g, Tryd.prog.globalNamed x.1 = some g ∧ (Tryd.prog.globals[g]?).map (·.type) = some 25 := by
    intro x hx
    have := List.all_eq_true.1 LA_named x hx
    split at this
    · rename_i g hg
      exact ⟨g, hg, by simpa using this⟩
    · cases this
  have c57 : Tryd.prog.cellsOf 156 = 1 := by kernel_rfl
  have c9 : Tryd.prog.cellsOf 9 = 1 := by kernel_rfl
  obtain ⟨ad, h1, _⟩ := sents Tryd.underlying25 row_es Tryd.underlying136 Tryd.underlying156 rfl rfl Tryd.underlying9 c57 c9 LA ps hl hn hr
  have cellg : ∀ i g, (LA.map (fun x => Tryd.prog.globalNamed x.1))[i]? = some (some g) → W.cell? ⟨g, 0, none⟩ = some (.iface 136 (.pointer (some (ad i)))) := by
    intro i g hx
    rw [List.getElem?_map] at hx
    obtain ⟨x, hx1, hx2⟩ := Option.map_eq_some_iff.1 hx
    simpa using World.var?_cell hx2 (h1 i x hx1).2 0
  rw [LA_g] at cellg
  exact ⟨ad 3, cellg 3 _ rfl⟩
end Go.Proofs.YthokfjkgmopeoaaDoor
