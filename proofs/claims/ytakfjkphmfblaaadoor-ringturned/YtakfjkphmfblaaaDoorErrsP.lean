/- From the condition that the listed package-level variables read as the program's text lays them: the four errors of a ring, each in its variable. -/
import Derived.Test.YtakfjkphmfblaaaDoorLaidP
import Derived.Test.YtakfjkphmfblaaaDoorErrB
namespace Go.Proofs.YtakfjkphmfblaaaDoor
open Go.ChangeShapes Go.WideShapes Go.RowKit
/-- The four, by name and text. -/
def L4 : List (String × List UInt8) := (Rows.ringComesRow.laid.drop 3).map fun x => (x.1, match x.2 with | .iface _ (.ptr (.agg [.lit (.string t)])) => t | _ => [])
theorem L4_laid : (L4.map fun x => (x.1, errD x.2)) = Rows.ringComesRow.laid.drop 3 := rfl
theorem laid4_split (W : World) : laidMetH Tryd.prog Rows.ringComesRow.laid W = laidMet Tryd.prog (Rows.ringComesRow.laid.take 3 ++ L4.map fun x => (x.1, errD x.2)) W := by kernel_rfl
theorem L4_named : (L4.all fun x => match Tryd.prog.globalNamed x.1 with | some g => (Tryd.prog.globals[g]?).map (·.type) == some 26 | none => false) = true := by kernel_rfl
theorem g4 : L4.map (fun x => Tryd.prog.globalNamed x.1) = [some 1, some 2, some 3, some 0] := by kernel_rfl
theorem errs_of_laid {W : World} (h : laidMetH Tryd.prog Rows.ringComesRow.laid W) : ∃ ad, Errs W ad := by
  rw [laid4_split] at h
  obtain ⟨ps0, hl0, hnd0, hr0⟩ := h
  obtain ⟨pp, ps, rfl, hl⟩ := laid_peel _ _ _ hl0
  have hr := fun b off (hm : MemPlace.cell b off ∈ ps) => hr0 b off (List.mem_append_right _ hm)
  have hn : ∀ x ∈ L4, ∃ g, Tryd.prog.globalNamed x.1 = some g ∧ (Tryd.prog.globals[g]?).map (·.type) = some 26 := by
    intro x hx
    have := List.all_eq_true.1 L4_named x hx
    split at this
    · rename_i g hg
      exact ⟨g, hg, by simpa using this⟩
    · cases this
  have c57 : Tryd.prog.cellsOf 122 = 1 := by kernel_rfl
  have c9 : Tryd.prog.cellsOf 9 = 1 := by kernel_rfl
  obtain ⟨ad, h1, _⟩ := sents Tryd.underlying26 row_es Tryd.underlying106 Tryd.underlying122 rfl rfl Tryd.underlying9 c57 c9 L4 ps hl hn hr
  have cellg : ∀ i g, (L4.map (fun x => Tryd.prog.globalNamed x.1))[i]? = some (some g) → W.cell? ⟨g, 0, none⟩ = some (.iface 106 (.pointer (some (ad i)))) := by
    intro i g hx
    rw [List.getElem?_map] at hx
    obtain ⟨x, hx1, hx2⟩ := Option.map_eq_some_iff.1 hx
    simpa using World.var?_cell hx2 (h1 i x hx1).2 0
  rw [g4] at cellg
  exact ⟨fun i => match i with | 1 => ad 0 | 3 => ad 1 | 5 => ad 2 | _ => ad 3, cellg 0 _ rfl, cellg 1 _ rfl, cellg 2 _ rfl, cellg 3 _ rfl⟩
end Go.Proofs.YtakfjkphmfblaaaDoor
