/- From the condition that the listed package-level variables read as the program's text lays them: the five errors of a configuration, each in its variable. -/
import Derived.Test.YtgjehnahkbddgaaDoorLaidP
import Derived.Test.YtgjehnahkbddgaaDoorQuCB
namespace Go.Proofs.YtgjehnahkbddgaaDoor
open Go.ChangeShapes Go.WideShapes Go.RowKit
/-- The five, by name and text. -/
def L5 : List (String × List UInt8) := (Rows.quorumTwoRow.laid.drop 0).map fun x => (x.1, match x.2 with | .iface _ (.ptr (.agg [.lit (.string t)])) => t | _ => [])
theorem L5_laid : (L5.map fun x => (x.1, errD x.2)) = Rows.quorumTwoRow.laid.drop 0 := rfl
theorem laid5_split (W : World) : laidMetH Tryd.prog Rows.quorumTwoRow.laid W = laidMet Tryd.prog (Rows.quorumTwoRow.laid.take 0 ++ L5.map fun x => (x.1, errD x.2)) W := by kernel_rfl
theorem L5_named : (L5.all fun x => match Tryd.prog.globalNamed x.1 with | some g => (Tryd.prog.globals[g]?).map (·.type) == some 32 | none => false) = true := by kernel_rfl
theorem g5 : L5.map (fun x => Tryd.prog.globalNamed x.1) = [some 0, some 1, some 4, some 2, some 5] := by kernel_rfl
theorem errsQ_of_laid {W : World} (h : laidMetH Tryd.prog Rows.quorumTwoRow.laid W) : ∃ ad, ErrsQ W ad := by
  rw [laid5_split] at h
  obtain ⟨ps0, hl0, hnd0, hr0⟩ := h
  obtain ⟨pp, ps, rfl, hl⟩ := laid_peel _ _ _ hl0
  have hr := fun b off (hm : MemPlace.cell b off ∈ ps) => hr0 b off (List.mem_append_right _ hm)
  have hn : ∀ x ∈ L5, ∃ g, Tryd.prog.globalNamed x.1 = some g ∧ (Tryd.prog.globals[g]?).map (·.type) = some 32 := by
    intro x hx
    have := List.all_eq_true.1 L5_named x hx
    split at this
    · rename_i g hg
      exact ⟨g, hg, by simpa using this⟩
    · cases this
  have c57 : Tryd.prog.cellsOf 122 = 1 := by kernel_rfl
  have c9 : Tryd.prog.cellsOf 9 = 1 := by kernel_rfl
  obtain ⟨ad, h1, _⟩ := sents Tryd.underlying32 row_es Tryd.underlying101 Tryd.underlying122 rfl rfl Tryd.underlying9 c57 c9 L5 ps hl hn hr
  have cellg : ∀ i g, (L5.map (fun x => Tryd.prog.globalNamed x.1))[i]? = some (some g) → W.cell? ⟨g, 0, none⟩ = some (.iface 101 (.pointer (some (ad i)))) := by
    intro i g hx
    rw [List.getElem?_map] at hx
    obtain ⟨x, hx1, hx2⟩ := Option.map_eq_some_iff.1 hx
    simpa using World.var?_cell hx2 (h1 i x hx1).2 0
  rw [g5] at cellg
  exact ⟨fun i => match i with | 1 => ad 0 | 2 => ad 1 | 3 => ad 2 | 4 => ad 3 | _ => ad 4, cellg 0 _ rfl, cellg 1 _ rfl, cellg 2 _ rfl, cellg 3 _ rfl, cellg 4 _ rfl⟩
end Go.Proofs.YtgjehnahkbddgaaDoor
